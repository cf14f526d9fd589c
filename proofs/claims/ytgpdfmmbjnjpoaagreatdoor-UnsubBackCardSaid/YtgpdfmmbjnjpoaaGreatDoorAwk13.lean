/- What is proved here, on plain values: what an Unsubscribe or an Unsuback is encoded to is decoded as it was, with nothing of what its kind has not; and what is decoded is encoded, and decoded, as it was. Conditions: few bytes. What is proved here: a frame that is decoded by unsub.Decode. Conditions: the writer is there; what Decode tells. What is proved here: Decode of package unsub tells what a plain function says. Conditions: few bytes; what the rows list of the package's variables. What is proved here: Encode of package unsub tells what a plain function says. Conditions: few bytes, the packet's parts stand where it says; what the rows list of the package's variables. What is proved here: the document's Bare of an Unsubscribe or an Unsuback. Conditions: the packet's parts stand where it says, few of them. What is proved here: what the statements of layer 13 hold awake. Condition: what the rows list of the package's variables. -/
import Derived.Test.YtgpdfmmbjnjpoaaGreatDoorPar08
import Derived.Test.YtgpdfmmbjnjpoaaGreatDoorCod13
import Derived.Test.YtgpdfmmbjnjpoaaGreatDoorBra08
namespace Go.Proofs.YtgpdfmmbjnjpoaaGreatDoor
set_option maxRecDepth 100000
open Go.RowKit Go.Extern.Stop Go.Stop Go.Extern
def kU (first : Int) : Int := if first = 162 then 10 else if first = 176 then 11 else 0
def fU (kind : Int) : Int := if kind = 10 then 162 else if kind = 11 then 176 else 0
theorem kU_of {first : Int} (h : ¬ kU first = 0) : (first = 162 ∧ kU first = 10) ∨ (first = 176 ∧ kU first = 11) := by
  unfold kU at h ⊢
  by_cases h1 : first = 162
  · exact .inl ⟨h1, by rw [if_pos h1]⟩
  · rw [if_neg h1] at h
    by_cases h2 : first = 176
    · exact .inr ⟨h2, by rw [if_neg h1, if_pos h2]⟩
    · rw [if_neg h2] at h
      exact absurd rfl h
theorem fU_of {kind : Int} (h : ¬ fU kind = 0) : (kind = 10 ∧ fU kind = 162 ∧ kU (fU kind) = 10) ∨ (kind = 11 ∧ fU kind = 176 ∧ kU (fU kind) = 11) := by
  unfold fU at h ⊢
  by_cases h1 : kind = 10
  · subst h1; exact .inl ⟨rfl, rfl, rfl⟩
  · rw [if_neg h1] at h
    by_cases h2 : kind = 11
    · subst h2; exact .inr ⟨rfl, rfl, rfl⟩
    · rw [if_neg h2] at h
      exact absurd rfl h
def dcU10 (t : TH) (q : Er × List ByteArray) : Er × Pk := if q.1.no = 0 then (e00, pkS 10 t.id t.L [] q.2 []) else (q.1, pk0)
def dcU11 (t : TH) (q : Er × List Int) : Er × Pk := if q.1.no = 0 then (e00, pkS 11 t.id t.L [] [] q.2) else (q.1, pk0)
/-- What Decode tells of any bytes. -/
def dcU (first : Int) (s : ByteArray) : Er × Pk :=
  if kU first = 0 then (⟨2, 129, 0⟩, pk0)
  else if (thF (kU first) s).e.no = 0 then
    if kU first = 10 then dcU10 (thF 10 s) (ptL (rdT s) s 32 [] (thF 10 s).R) else dcU11 (thF 11 s) (ptL (rdC 11 s) s 32 [] (thF 11 s).R)
  else ((thF (kU first) s).e, pk0)
def wrU (p : Pk) : EV := if p.kind = 10 then p.filters.foldl stT (phW p) else p.codes.foldl stC (phW p)
/-- What Encode tells of any packet. -/
def enU (p : Pk) : FrR :=
  if fU p.kind = 0 then ⟨⟨7, 128, 0⟩, 0, ⟨#[]⟩⟩
  else if (encR p.kind p.props).no = 0 then frR (wrU p) (fU p.kind) (dcU (fU p.kind) ⟨(wrU p).L.toArray⟩).1
  else ⟨⟨(encR p.kind p.props).no, (encR p.kind p.props).r, (encR p.kind p.props).at_⟩, 0, ⟨#[]⟩⟩
/-- A packet with nothing of what its kind has not. -/
def bareU (p : Pk) : Pk := if p.kind = 10 then pkS p.kind p.id (plL p.props) [] p.filters [] else pkS p.kind p.id (plL p.props) [] [] p.codes
theorem bareU_a {p : Pk} (h : p.kind = 10) : bareU p = pkS p.kind p.id (plL p.props) [] p.filters [] := by unfold bareU; rw [if_pos h]
theorem bareU_b {p : Pk} (h : ¬ p.kind = 10) : bareU p = pkS p.kind p.id (plL p.props) [] [] p.codes := by unfold bareU; rw [if_neg h]
theorem enU_bad {p : Pk} (h : (enU p).e.no ≠ 0) : (enU p).first = 0 ∧ (enU p).s = ⟨#[]⟩ := by
  unfold enU at h ⊢
  by_cases h0 : fU p.kind = 0
  · rw [if_pos h0]
    exact ⟨rfl, rfl⟩
  · rw [if_neg h0] at h ⊢
    by_cases h1 : (encR p.kind p.props).no = 0
    · rw [if_pos h1] at h ⊢
      exact frR_bad8 h
    · rw [if_neg h1]
      exact ⟨rfl, rfl⟩
theorem dcU_bad {first : Int} {s : ByteArray} (h : (dcU first s).1.no ≠ 0) : (dcU first s).2 = pk0 := by
  unfold dcU at h ⊢
  by_cases c0 : kU first = 0
  · rw [if_pos c0]
  · rw [if_neg c0] at h ⊢
    by_cases c1 : (thF (kU first) s).e.no = 0
    · rw [if_pos c1] at h ⊢
      unfold dcU10 dcU11 at h ⊢
      by_cases c2 : kU first = 10
      · rw [if_pos c2] at h ⊢
        by_cases c3 : (ptL (rdT s) s 32 [] (thF 10 s).R).1.no = 0
        · rw [if_pos c3] at h
          exact absurd rfl h
        · rw [if_neg c3]
      · rw [if_neg c2] at h ⊢
        by_cases c3 : (ptL (rdC 11 s) s 32 [] (thF 11 s).R).1.no = 0
        · rw [if_pos c3] at h
          exact absurd rfl h
        · rw [if_neg c3]
    · rw [if_neg c1]
/-- What is decoded. -/
structure DcU (first : Int) (s : ByteArray) (k : Int) (id : Nat) (L : PL) (F : List ByteArray) (C : List Int) : Prop where
  fst : first = fU k
  idk : id ≠ 0 ∧ id < 65536
  ok : RdOk k s L
  pk : dcU first s = (e00, pkS k id L [] F C)
  parts : (k = 10 ∧ C = [] ∧ F ≠ [] ∧ F.length ≤ 32 ∧ ∀ x ∈ F, postT s x) ∨ (k = 11 ∧ F = [] ∧ C ≠ [] ∧ C.length ≤ 32 ∧ ∀ x ∈ C, postC 11 x)
theorem dcU_ok {first : Int} {s : ByteArray} (h : (dcU first s).1.no = 0) : ∃ k id L F C, DcU first s k id L F C := by
  have h' := h
  unfold dcU at h
  by_cases c0 : kU first = 0
  · rw [if_pos c0] at h
    exact absurd (show (2 : Nat) = 0 from h) (by decide)
  · rw [if_neg c0] at h
    by_cases c1 : (thF (kU first) s).e.no = 0
    · rw [if_pos c1] at h
      have ht := th_ok c1
      rcases kU_of c0 with ⟨hf, hk⟩ | ⟨hf, hk⟩
      · rw [if_pos hk] at h
        rw [hk] at ht c1
        unfold dcU10 at h
        by_cases c3 : (ptL (rdT s) s 32 [] (thF 10 s).R).1.no = 0
        · obtain ⟨P, p1, p2, p3, p4⟩ := (partT s).rdo 32 [] _ ht.no ht.le c3
          refine ⟨10, _, _, P, [], hf, ht.id, ht.ok, ?_, .inl ⟨rfl, rfl, p3, p4, p2⟩⟩
          unfold dcU
          rw [if_neg c0, hk, if_pos c1, if_pos rfl, p1]
          unfold dcU10
          rw [if_pos (show e00.no = 0 from rfl)]
          rfl
        · rw [if_neg c3] at h
          exact absurd h c3
      · rw [if_neg (by rw [hk]; decide)] at h
        rw [hk] at ht c1
        unfold dcU11 at h
        by_cases c3 : (ptL (rdC 11 s) s 32 [] (thF 11 s).R).1.no = 0
        · obtain ⟨P, p1, p2, p3, p4⟩ := (partC 11 s).rdo 32 [] _ ht.no ht.le c3
          refine ⟨11, _, _, [], P, hf, ht.id, ht.ok, ?_, .inr ⟨rfl, rfl, p3, p4, p2⟩⟩
          unfold dcU
          rw [if_neg c0, hk, if_pos c1, if_neg (by decide), p1]
          unfold dcU11
          rw [if_pos (show e00.no = 0 from rfl)]
          rfl
        · rw [if_neg c3] at h
          exact absurd h c3
    · rw [if_neg c1] at h
      exact absurd h c1
/-- What is encoded is decoded as it was. -/
theorem enU_back {p : Pk} (hsz : ∀ q ∈ p.props, q.s.size < 65536 ∧ q.v.size < 65536) (hl : (wrAll (actsL6 p.props)).L.length ≤ 268435455) (h : (enU p).e.no = 0) : dcU (enU p).first (enU p).s = (e00, bareU p) := by
  unfold enU at h ⊢
  by_cases h0 : fU p.kind = 0
  · rw [if_pos h0] at h
    exact absurd (show (7 : Nat) = 0 from h) (by decide)
  · rw [if_neg h0] at h ⊢
    by_cases h1 : (encR p.kind p.props).no = 0
    · rw [if_pos h1] at h ⊢
      obtain ⟨hV, hd, he⟩ := frR_ok8 h
      rw [he]
      simp only
      have key : ∀ (id : Nat) (l : List UInt8), id < 65536 → (wrU p).L = be 2 id ++ ((encR p.kind p.props).L ++ l) → ∀ k, kU (fU p.kind) = k → p.kind = k → (¬ k = 0) → ∃ R, (thF k ⟨(wrU p).L.toArray⟩) = ⟨e00, id, plL p.props, R⟩ ∧ Cur ⟨(wrU p).L.toArray⟩ R l := by
        intro id l hid hL k hk hpk hk0
        rw [hpk] at h1 hL
        have hw := th_wr (k := k) (s := ⟨(wrU p).L.toArray⟩) (l := l) hid h1 hsz hl (by rw [arr_list8, hL])
        by_cases c : id = 0
        · rw [if_pos c] at hw
          exfalso
          unfold dcU at hd
          rw [hk, if_neg hk0, if_neg (by rw [hw]; decide)] at hd
          simp only at hd
          rw [hw] at hd
          exact absurd hd (by decide)
        · rw [if_neg c] at hw
          exact hw
      rcases fU_of h0 with ⟨hk, hf, hkf⟩ | ⟨hk, hf, hkf⟩
      · have hW : wrU p = p.filters.foldl stT (phW p) := by unfold wrU; rw [if_pos hk]
        have hV2 := hV
        rw [hW] at hV2
        obtain ⟨w1, w2, w3⟩ := (partT ⟨(wrU p).L.toArray⟩).fold_no p.filters (phW p) hV2
        obtain ⟨m, hm, hm2, hpL⟩ := phW_no w1
        have hL : (wrU p).L = be 2 m ++ ((encR p.kind p.props).L ++ p.filters.flatMap byT8) := by
          rw [hW, w3]
          show (phW p).L ++ _ = _
          rw [hpL, List.append_assoc]
        obtain ⟨R, e, hc⟩ := key m _ hm2 hL 10 hkf hk (by decide)
        unfold dcU at hd ⊢
        rw [hkf, if_neg (by decide), if_pos (by rw [e]; rfl), if_pos rfl, e] at hd ⊢
        unfold dcU10 at hd ⊢
        by_cases c3 : (ptL (rdT ⟨(wrU p).L.toArray⟩) ⟨(wrU p).L.toArray⟩ 32 [] R).1.no = 0
        · have h4 := (partT ⟨(wrU p).L.toArray⟩).wr p.filters 32 [] R hc w2 c3
          rw [List.nil_append] at h4
          unfold bareU
          rw [if_pos hk, hk, hm]
          simp only
          rw [h4, if_pos (show e00.no = 0 from rfl)]
        · simp only at hd
          rw [if_neg c3] at hd
          exact absurd hd c3
      · have hk10 : ¬ p.kind = 10 := by rw [hk]; decide
        have hW : wrU p = p.codes.foldl stC (phW p) := by unfold wrU; rw [if_neg hk10]
        have hV2 := hV
        rw [hW] at hV2
        obtain ⟨w1, w2, w3⟩ := (partC 11 ⟨(wrU p).L.toArray⟩).fold_no p.codes (phW p) hV2
        obtain ⟨m, hm, hm2, hpL⟩ := phW_no w1
        have hL : (wrU p).L = be 2 m ++ ((encR p.kind p.props).L ++ p.codes.flatMap byC8) := by
          rw [hW, w3]
          show (phW p).L ++ _ = _
          rw [hpL, List.append_assoc]
        obtain ⟨R, e, hc⟩ := key m _ hm2 hL 11 hkf hk (by decide)
        unfold dcU at hd ⊢
        rw [hkf, if_neg (by decide), if_pos (by rw [e]; rfl), if_neg (by decide), e] at hd ⊢
        unfold dcU11 at hd ⊢
        by_cases c3 : (ptL (rdC 11 ⟨(wrU p).L.toArray⟩) ⟨(wrU p).L.toArray⟩ 32 [] R).1.no = 0
        · have h4 := (partC 11 ⟨(wrU p).L.toArray⟩).wr p.codes 32 [] R hc w2 c3
          rw [List.nil_append] at h4
          unfold bareU
          rw [if_neg hk10, hk, hm]
          simp only
          rw [h4, if_pos (show e00.no = 0 from rfl)]
        · simp only at hd
          rw [if_neg c3] at hd
          exact absurd hd c3
    · rw [if_neg h1] at h
      exact absurd h h1
theorem wrU_a {p : Pk} (h : p.kind = 10) : wrU p = p.filters.foldl stT (phW p) := by unfold wrU; rw [if_pos h]
theorem wrU_b {p : Pk} (h : ¬ p.kind = 10) : wrU p = p.codes.foldl stC (phW p) := by unfold wrU; rw [if_neg h]
theorem enU_of {first : Int} {s : ByteArray} {k : Int} {id : Nat} {L : PL} {F : List ByteArray} {C : List Int} (hd : DcU first s k id L F C) (hss : s.size ≤ 60000) : (enU (pkS k id L [] F C)).e.no = 0 := by
  have hl := Nat.le_trans hd.ok.len (show s.size ≤ 268435455 by omega)
  have hid := hd.idk
  rcases hd.parts with ⟨rfl, rfl, hne, hle, hps⟩ | ⟨rfl, rfl, hne, hle, hps⟩
  · have hW : wrU (pkS 10 id L [] F []) = ⟨0, 0, be 2 id ++ ((encR 10 L).L ++ F.flatMap byT8)⟩ := by
      rw [wrU_a (p := pkS 10 id L [] F []) rfl, show (pkS 10 id L [] F []).filters = F from rfl, phW_of hid.2, (partT s).fold_of F _ rfl fun x hx => (hps x hx).1, List.append_assoc]
    unfold enU
    rw [show (pkS 10 id L [] F []).kind = 10 from rfl, show (pkS 10 id L [] F []).props = L from rfl, show fU 10 = 162 from rfl, if_neg (by decide), if_pos hd.ok.enc, hW]
    obtain ⟨s2, hs2⟩ : ∃ s2 : ByteArray, s2 = ⟨(be 2 id ++ ((encR 10 L).L ++ F.flatMap byT8)).toArray⟩ := ⟨_, rfl⟩
    have hw := th_wr (k := 10) (s := s2) (l := F.flatMap byT8) hid.2 hd.ok.enc hd.ok.sz hl (by rw [hs2, arr_list8])
    rw [if_neg hid.1] at hw
    obtain ⟨R, e, hc⟩ := hw
    have hz : ∀ x ∈ F, postT s2 x := fun x hx => ⟨(hps x hx).1, by
      have h1 : (F.flatMap byT8).length ≤ s2.size := by
        rw [hs2, bsize, List.length_append, List.length_append]
        omega
      have h2 : (byT8 x).length ≤ (F.flatMap byT8).length := by
        obtain ⟨a, b, rfl⟩ := List.append_of_mem hx
        rw [List.flatMap_append, List.flatMap_cons, List.length_append, List.length_append]
        omega
      have h3 : (byT8 x).length = 2 + x.size := by
        unfold byT8
        rw [List.length_append, be_len, bLen]
      omega⟩
    have h4 := (partT s2).of F 32 [] R hc hz (by simpa using hne) hle
    have h5 : (dcU 162 s2).1.no = 0 := by
      unfold dcU
      rw [show kU 162 = 10 from rfl, if_neg (by decide), if_pos (by rw [e]; rfl), if_pos rfl, e]
      unfold dcU10
      simp only
      rw [if_pos h4]
      rfl
    rw [show (⟨(EV.L ⟨0, 0, be 2 id ++ ((encR 10 L).L ++ F.flatMap byT8)⟩).toArray⟩ : ByteArray) = s2 from hs2.symm, frR_of8 rfl h5]
    rfl
  · have hW : wrU (pkS 11 id L [] [] C) = ⟨0, 0, be 2 id ++ ((encR 11 L).L ++ C.flatMap byC8)⟩ := by
      rw [wrU_b (p := pkS 11 id L [] [] C) (show ¬ (11 : Int) = 10 by decide), show (pkS 11 id L [] [] C).codes = C from rfl, phW_of hid.2, (partC 11 s).fold_of C _ rfl fun x hx => (hps x hx).2, List.append_assoc]
    unfold enU
    rw [show (pkS 11 id L [] [] C).kind = 11 from rfl, show (pkS 11 id L [] [] C).props = L from rfl, show fU 11 = 176 from rfl, if_neg (by decide), if_pos hd.ok.enc, hW]
    obtain ⟨s2, hs2⟩ : ∃ s2 : ByteArray, s2 = ⟨(be 2 id ++ ((encR 11 L).L ++ C.flatMap byC8)).toArray⟩ := ⟨_, rfl⟩
    have hw := th_wr (k := 11) (s := s2) (l := C.flatMap byC8) hid.2 hd.ok.enc hd.ok.sz hl (by rw [hs2, arr_list8])
    rw [if_neg hid.1] at hw
    obtain ⟨R, e, hc⟩ := hw
    have h4 := (partC 11 s2).of C 32 [] R hc hps (by simpa using hne) hle
    have h5 : (dcU 176 s2).1.no = 0 := by
      unfold dcU
      rw [show kU 176 = 11 from rfl, if_neg (by decide), if_pos (by rw [e]; rfl), if_neg (by decide), e]
      unfold dcU11
      simp only
      rw [if_pos h4]
      rfl
    rw [show (⟨(EV.L ⟨0, 0, be 2 id ++ ((encR 11 L).L ++ C.flatMap byC8)⟩).toArray⟩ : ByteArray) = s2 from hs2.symm, frR_of8 rfl h5]
    rfl
/-- Few filters and codes, of few bytes. -/
def SmU (p : Pk) : Prop := SmallP p.props ∧ p.filters.length ≤ 40 ∧ p.codes.length ≤ 40 ∧ ∀ x ∈ p.filters, x.size ≤ 2048
/-- What is decoded has few parts, is encoded, and is decoded as it was. -/
theorem deU_back {first : Int} {s : ByteArray} (hss : s.size ≤ 2048) (h : (dcU first s).1.no = 0) :
    SmU (dcU first s).2 ∧ (enU (dcU first s).2).e.no = 0 ∧ dcU (enU (dcU first s).2).first (enU (dcU first s).2).s = (e00, (dcU first s).2) := by
  obtain ⟨k, id, L, F, C, hd⟩ := dcU_ok h
  rw [hd.pk]
  have hen := enU_of hd (by omega)
  have hF : F.length ≤ 40 ∧ C.length ≤ 40 ∧ ∀ x ∈ F, x.size ≤ 2048 := by
    rcases hd.parts with ⟨_, rfl, _, hle, hps⟩ | ⟨_, rfl, _, hle, hps⟩
    · exact ⟨by omega, Nat.zero_le _, fun x hx => Nat.le_trans (hps x hx).2 hss⟩
    · exact ⟨Nat.zero_le _, by omega, fun x hx => by cases hx⟩
  refine ⟨⟨hd.ok.small (by omega), hF⟩, hen, ?_⟩
  rw [enU_back (p := pkS k id L [] F C) hd.ok.sz (Nat.le_trans hd.ok.len (by omega)) hen]
  rcases hd.parts with ⟨rfl, rfl, _⟩ | ⟨rfl, rfl, _⟩
  · rw [bareU_a (p := pkS 10 id L [] F []) rfl]
    show (e00, pkS 10 id (plL L) [] F []) = _
    rw [hd.ok.pl]
  · rw [bareU_b (p := pkS 11 id L [] [] C) (show ¬ (11 : Int) = 10 by decide)]
    show (e00, pkS 11 id (plL L) [] [] C) = _
    rw [hd.ok.pl]
theorem phW_len {p : Pk} (hS : SmallP p.props) : (phW p).L.length ≤ 63846 := by
  unfold phW
  have h1 := stepW_len (stepW w0 (numE 2 p.id)) ⟨0, 0, (encR p.kind p.props).L⟩
  have h2 := stepW_len w0 (numE 2 p.id)
  have h3 := numE_len 2 p.id
  have h4 := encR_len (k := p.kind) hS
  have h5 : w0.L.length = 0 := rfl
  simp only at h1
  omega
theorem foldT_len : ∀ (F : List ByteArray) (W : EV), (∀ x ∈ F, x.size ≤ 2048) → (F.foldl stT W).L.length ≤ W.L.length + F.length * 2050 := by
  intro F
  induction F with
  | nil => intro W _; exact Nat.le_add_right _ _
  | cons x F ih =>
    intro W h
    rw [List.foldl_cons, List.length_cons, Nat.succ_mul]
    have h1 := ih (stT W x) fun y hy => h y (List.mem_cons_of_mem _ hy)
    have h2 := stepW_len W (textE x)
    have h3 := textE_len x
    have h4 := h x (List.mem_cons_self ..)
    unfold stT at h1 ⊢
    omega
theorem foldC_len : ∀ (C : List Int) (W : EV), (C.foldl stC W).L.length ≤ W.L.length + C.length := by
  intro C
  induction C with
  | nil => intro W; exact Nat.le_add_right _ _
  | cons x C ih =>
    intro W
    rw [List.foldl_cons, List.length_cons]
    have h1 := ih (stC W x)
    have h2 := stepW_len W (numE 1 x)
    have h3 := numE_len 1 x
    unfold stC at h1 ⊢
    omega
theorem wrU_len {p : Pk} (hS : SmU p) : (wrU p).L.length ≤ 150000 := by
  obtain ⟨h1, h2, h3, h4⟩ := hS
  have h5 := phW_len h1
  unfold wrU
  split
  · have := foldT_len p.filters (phW p) h4
    omega
  · have := foldC_len p.codes (phW p)
    omega
theorem enU_len {p : Pk} (hS : SmU p) : (enU p).s.size ≤ 150000 := by
  unfold enU
  split
  · exact Nat.zero_le _
  · split
    · exact Nat.le_trans frR_len8 (wrU_len hS)
    · exact Nat.zero_le _
theorem dcU_lists (first : Int) (s : ByteArray) : (dcU first s).2.subs = [] ∧ (dcU first s).2.wProps = [] := by
  unfold dcU dcU10 dcU11
  (repeat' split) <;> exact ⟨rfl, rfl⟩
end Go.Proofs.YtgpdfmmbjnjpoaaGreatDoor
namespace Go.Proofs.YtgpdfmmbjnjpoaaGreatDoor
set_option maxRecDepth 100000
open Go.RowKit Go.Extern.Stop Go.Stop Go.Extern
section
variable {z w w' : World} {S : Nat → Addr} {B g : Nat} {s : ByteArray} {R : RV} {v : Value} {W : EV}
set_option maxHeartbeats 8000000 in
theorem frame_any13 (first : Int) (h : WObj w S B g v W) {q : Er × Pk} (hdc : ∀ W1 : World, Below w.heap.size w W1 → Calls Tryz.prog 48 #[.agg #[.int .i64 first, .string ⟨W.L.toArray⟩]] W1 (DcSays W1 S q)) :
    Calls Tryz.prog 74 #[.int .i64 first, .pointer (some ⟨g, 0, none⟩), .func (.func 48) #[] #[]] w (FrSays w S (frR W first q.1)) := by
  obtain ⟨f, hf⟩ : ∃ f, f = frR W first q.1 := ⟨_, rfl⟩
  rw [← hf]
  unfold frR at hf
  have hb1 : Below w.heap.size w (w.alloc (.cells #[.int .i64 0, .string ⟨#[]⟩] 33)) := (Below.refl _ _).alloc (Nat.le_refl _) _
  have HW := Lib.hid (wbytes_any (h.below hb1))
  have HK := Lib.hid (Blk.made w 33 #[.int .i64 0, .string ⟨#[]⟩])
  have HB1 := Lib.hid hb1
  have HD := Lib.hid hdc
  have HF := Lib.hid hf
  clear hb1 hdc h hf
  go_enter Tryz.func74, Tryz.ntmps74
  go_wp2_with fail
  refine HW.out.mono ?_
  rintro x w2 ⟨e2, rfl, he2, hb2⟩
  obtain ⟨W0, Wa, WL⟩ := W
  obtain ⟨qe, qp⟩ := q
  simp only at he2 HD HF ⊢
  have k2 := HK.out.below hb2 HK.out.lt
  have hb12 := HB1.out.trans (hb2.mono HB1.out.size)
  have HB2 := Lib.hid hb12
  have HK2 := Lib.hid k2
  have hff := HF.out
  by_cases h0 : W0 = 0
  · subst h0
    rw [if_pos rfl] at hff
    unfold ErrOf at he2
    rw [if_pos rfl] at he2
    subst he2
    obtain ⟨t, ht⟩ : ∃ t : ByteArray, t = ⟨WL.toArray⟩ := ⟨_, rfl⟩
    rw [← ht] at HD hff
    have HFF := Lib.hid hff
    have hb3 : Below w2.heap.size w2 (w2.alloc (.cells #[.int .i64 first, .string t] 33)) := (Below.refl _ _).alloc (Nat.le_refl _) _
    have hb13 := hb12.trans (hb3.mono hb12.size)
    have HDD := Lib.hid (HD.out _ hb13)
    have HB3 := Lib.hid hb13
    have HK3 := Lib.hid (k2.below hb3 k2.lt)
    have HK4 := Lib.hid (Blk.made w2 33 #[.int .i64 first, .string t])
    clear hb2 k2 hb12 hff hb3 hb13 HD HW HF HK HB1 HB2 HK2
    rw [show (⟨(EV.L ⟨0, Wa, WL⟩).toArray⟩ : ByteArray) = t from ht.symm]
    clear ht
    go_wp2_with fail
    refine HDD.out.mono ?_
    rintro x w4 ⟨A4, e4, rfl, _, he4, hb4⟩
    simp only at he4
    obtain ⟨c, hc⟩ : ∃ c, c = qp.cells A4 := ⟨_, rfl⟩
    rw [show Pk.agg (qe, qp).2 A4 = .agg c from by rw [hc]; rfl]
    have hcs : c.size = 26 := by rw [hc]; rfl
    have hst := st_pkt w4 c hcs (by rw [hc]; exact pk_one _ _)
    have hst2 := st_pktc w4 c hcs (by rw [hc]; exact pk_one _ _)
    clear hc
    have hb5 : Below w4.heap.size w4 (w4.alloc (.cells c 29)) := (Below.refl _ _).alloc (Nat.le_refl _) _
    have k3 := (HK3.out.below hb4 HK3.out.lt).below hb5 (HK3.out.below hb4 HK3.out.lt).lt
    have k4 := (HK4.out.below hb4 HK4.out.lt).below hb5 (HK4.out.below hb4 HK4.out.lt).lt
    have hb15 := (HB3.out.trans (hb4.mono HB3.out.size)).trans (hb5.mono (HB3.out.trans (hb4.mono HB3.out.size)).size)
    have c0 := k4.cell 0
    have c1 := k4.cell 1
    have h2 : ∀ {a b : Value}, (#[a, b] : Array Value)[0]? = some a ∧ (#[a, b] : Array Value)[1]? = some b := ⟨rfl, rfl⟩
    rw [h2.1] at c0
    rw [h2.2] at c1
    clear h2
    by_cases hq0 : qe.no = 0
    · have hff := HFF.out
      rw [if_pos hq0] at hff
      unfold ErrOf at he4
      rw [if_pos hq0] at he4
      subst he4
      obtain ⟨⟨z0, z1, y0, y1⟩, ⟨z2, y2⟩, ⟨f0, f1⟩, _⟩ := fr_facts (S := S) k3 (.int .i64 first) (.string t)
      have hbf := (hb15.setCell (p := ⟨w.heap.size, 0, none⟩) (Nat.le_refl _) (.int .i64 first)).setCell (p := ⟨w.heap.size, 1, none⟩) (Nat.le_refl _) (.string t)
      have HX := Lib.hid (show ∀ W, Below w.heap.size w W → FrSays w S f (.returned (.tuple #[.agg #[.int .i64 first, .string t], .nilIface])) W from fun W hb => by
        rw [hff]
        exact ⟨_, rfl, ErrOf.none, hb⟩)
      have HBF := Lib.hid hbf
      clear hff hbf hb5 k3 k4 hb15 hb4 HDD HFF HB3 HK3 HK4
      go_wp2
      exact bodyPost_ret (v := .tuple #[.agg #[.int .i64 first, .string t], .nilIface]) (by simp [results, Tryz.results74, go_sem, f0, f1]) rfl (HX.out _ HBF.out)
    · have hff := HFF.out
      rw [if_neg hq0] at hff
      obtain ⟨t4, u4, rfl⟩ := err_iface he4 hq0
      obtain ⟨⟨z0, z1, y0, y1⟩, ⟨z2, y2⟩, ⟨f0, f1⟩, ferr⟩ := fr_facts (S := S) k3 (.int .i64 0) (.string ⟨#[]⟩)
      have hbf := (hb15.setCell (p := ⟨w.heap.size, 0, none⟩) (Nat.le_refl _) (.int .i64 0)).setCell (p := ⟨w.heap.size, 1, none⟩) (Nat.le_refl _) (.string ⟨#[]⟩)
      have hee := ferr _ _ _ _ (he4.later hb5)
      have HX := Lib.hid (show FrSays w S f (.returned (.tuple #[.agg #[.int .i64 0, .string ⟨#[]⟩], .iface t4 u4])) _ from by
        rw [hff]
        exact ⟨_, rfl, hee, hbf⟩)
      clear hff hbf hb5 k3 k4 hb15 hb4 he4 hee ferr HDD HFF HB3 HK3 HK4
      go_wp2
      exact bodyPost_ret (v := .tuple #[.agg #[.int .i64 0, .string ⟨#[]⟩], .iface t4 u4]) (by simp [results, Tryz.results74, go_sem, f0, f1]) rfl HX.out
  · rw [if_neg h0] at hff
    obtain ⟨t2, u2, rfl⟩ := err_iface he2 h0
    obtain ⟨⟨z0, z1, y0, y1⟩, ⟨z2, y2⟩, ⟨f0, f1⟩, ferr⟩ := fr_facts (S := S) k2 (.int .i64 0) (.string ⟨#[]⟩)
    have hbf := (hb12.setCell (p := ⟨w.heap.size, 0, none⟩) (Nat.le_refl _) (.int .i64 0)).setCell (p := ⟨w.heap.size, 1, none⟩) (Nat.le_refl _) (.string ⟨#[]⟩)
    have hee := ferr _ _ _ _ he2
    have HX := Lib.hid (show FrSays w S f (.returned (.tuple #[.agg #[.int .i64 0, .string ⟨#[]⟩], .iface t2 u2])) _ from by
      rw [hff]
      exact ⟨_, rfl, hee, hbf⟩)
    clear hb2 hb12 hff he2 hbf hee ferr k2 HD HW HF HK HB1 HB2 HK2
    go_wp2
    exact bodyPost_ret (v := .tuple #[.agg #[.int .i64 0, .string ⟨#[]⟩], .iface t2 u2]) (by simp [results, Tryz.results74, go_sem, f0, f1]) rfl HX.out
end
end Go.Proofs.YtgpdfmmbjnjpoaaGreatDoor
namespace Go.Proofs.YtgpdfmmbjnjpoaaGreatDoor
set_option maxRecDepth 100000
open Go.ChangeShapes Go.WideShapes Go.RowKit Go.Deep Go.Extern.Stop Go.Stop Go.Extern
section
variable {w w' : World} {S : Nat → Addr} {s : ByteArray}
set_option maxHeartbeats 8000000 in
theorem dec13_bad (hE : Env w S) (first : Int) (h1 : ¬ first = 162) (h2 : ¬ first = 176) : Calls Tryz.prog 48 #[.agg #[.int .i64 first, .string s]] w (DcSays w S (dcU first s)) := by
  obtain ⟨z, hz⟩ : ∃ z, z = pk0.cells pa0 := ⟨_, rfl⟩
  have HZ := Lib.hid hz
  have HZS := Lib.hid (show z.size = 26 by rw [hz]; rfl)
  have HZ1 := Lib.hid (show z.all (·.oneCell') = true by rw [hz]; exact pk_one _ _)
  obtain ⟨q, hq⟩ : ∃ q, q = dcU first s := ⟨_, rfl⟩
  rw [← hq]
  unfold dcU at hq
  rw [if_pos (by unfold kU; rw [if_neg h1, if_neg h2])] at hq
  have HQ := Lib.hid hq
  obtain ⟨W2, hW2⟩ : ∃ W, W = (w.alloc (.cells #[.int .i64 first, .string s] 33)).alloc (.cells z 29) := ⟨_, rfl⟩
  have a1 : Below w.heap.size w (w.alloc (.cells #[.int .i64 first, .string s] 33)) := (Below.refl _ _).alloc (Nat.le_refl _) _
  have hb2 : Below w.heap.size w W2 := by rw [hW2]; exact a1.trans (((Below.refl (w.alloc (.cells #[.int .i64 first, .string s] 33)).heap.size _).alloc (Nat.le_refl _) (.cells z 29)).mono a1.size)
  have r1 : Blk W2 (w.heap.size + 1) 29 z := by
    have h := Blk.made (w.alloc (.cells #[.int .i64 first, .string s] 33)) 29 z
    rw [World.size_alloc] at h
    rw [hW2]; exact h
  have kM := (hE.later hb2).kMalformed
  have R1 := Lib.hid r1
  have HB2 := Lib.hid hb2
  have HN := Lib.hid (new_err (w := W2) S 1 129 0)
  have HW2 := Lib.hid hW2
  rw [hW2] at kM
  clear hE hz hq a1 hb2 r1 hW2
  go_enter Tryz.func48, Tryz.ntmps48
  go_wp2_with (first | refine wpk_alloc HZ.out rfl rfl ?_ | refine wpk_build HZ.out rfl rfl ?_)
  rw [← HW2.out]
  refine HN.out.mono ?_
  rintro x w7 ⟨e, rfl, he, hb7⟩
  obtain ⟨te, ue, rfl⟩ := he.iface
  have r1 := R1.out.below hb7 R1.out.lt
  have hb := HB2.out.trans (hb7.mono HB2.out.size)
  have hbf := below_row hb (k := w.heap.size + 1) (by omega) z
  have r3 := setRow_blk r1 z
  have LD := Lib.hid (And.intro r3 HZS.out)
  have HX := Lib.hid (show DcSays w S q (.returned (.tuple #[.agg z, .iface te ue])) (w7.setRow (w.heap.size + 1) z) from by
    rw [HQ.out]
    exact DcSays.bad8 HZ.out rfl (err_row (ErrOf.some (no := 2) (by decide) (by decide) he) r1 z) hbf)
  have HR1 := Lib.hid r1
  clear hb7 hb hbf r1 r3 kM he
  go_wp2_with (first | refine wpk_build HZ.out rfl rfl ?_ | refine wpk_store HR1.out HZS.out HZS.out HZ1.out _ _ rfl rfl rfl rfl ?_)
  exact bodyPost_ret (v := .tuple #[.agg z, .iface te ue]) (res_pkt (i := 2) (j := 3) rfl rfl rfl LD.out.1 LD.out.2) rfl HX.out
set_option maxHeartbeats 16000000 in
theorem dec13_162 (hE : Env w S) (hs : s.size ≤ 900000) : Calls Tryz.prog 48 #[.agg #[.int .i64 162, .string s]] w (DcSays w S (dcU 162 s)) := by
  have HE := Lib.hid hE
  have HSZ := Lib.hid hs
  obtain ⟨z, hz⟩ : ∃ z, z = pk0.cells pa0 := ⟨_, rfl⟩
  have HZ := Lib.hid hz
  have HZS := Lib.hid (show z.size = 26 by rw [hz]; rfl)
  have HZ1 := Lib.hid (show z.all (·.oneCell') = true by rw [hz]; exact pk_one _ _)
  obtain ⟨Q, hQ⟩ : ∃ Q, Q = dcU 162 s := ⟨_, rfl⟩
  rw [← hQ]
  unfold dcU at hQ
  rw [show kU 162 = 10 from rfl, if_neg (by decide), if_pos (show (10 : Int) = 10 from rfl)] at hQ
  obtain ⟨W2, hW2⟩ : ∃ W, W = (w.alloc (.cells #[.int .i64 162, .string s] 33)).alloc (.cells z 29) := ⟨_, rfl⟩
  have a1 : Below w.heap.size w (w.alloc (.cells #[.int .i64 162, .string s] 33)) := (Below.refl _ _).alloc (Nat.le_refl _) _
  have hb2 : Below w.heap.size w W2 := by rw [hW2]; exact a1.trans (((Below.refl (w.alloc (.cells #[.int .i64 162, .string s] 33)).heap.size _).alloc (Nat.le_refl _) (.cells z 29)).mono a1.size)
  have r1 : Blk W2 (w.heap.size + 1) 29 z := by
    have h := Blk.made (w.alloc (.cells #[.int .i64 162, .string s] 33)) 29 z
    rw [World.size_alloc] at h
    rw [hW2]; exact h
  have HSZ2 := Lib.hid (show W2.heap.size = w.heap.size + 1 + 1 by rw [hW2, World.size_alloc, World.size_alloc])
  have hb3 : Below W2.heap.size W2 (W2.alloc (.cells #[.string s, .int .i64 0, .nilIface] 157)) := (Below.refl _ _).alloc (Nat.le_refl _) _
  have HI := Lib.hid (show DcI w (W2.alloc (.cells #[.string s, .int .i64 0, .nilIface] 157)) S W2.heap.size s ⟨0, 0, 0⟩ z from ⟨hb2.trans (hb3.mono hb2.size), r1.below hb3 r1.lt, RObj.made W2 S s, hb2.size⟩)
  have HW2 := Lib.hid hW2
  have hth := th_any hE HI.out.bel HI.out.low HI.out.rd hs 10
  have hthn := fun hh => th_ok (k := 10) (s := s) hh
  obtain ⟨T, hT⟩ : ∃ T, T = thF 10 s := ⟨_, rfl⟩
  have hTP := fun hh => (hthn hh).no
  rw [← hT] at hth hQ hTP
  have HTH := Lib.hid hth
  have HTP := Lib.hid hTP
  have HQ := Lib.hid hQ
  clear hE hz hs hQ a1 hb2 r1 hb3 hW2 hth hthn hT hTP
  go_enter Tryz.func48, Tryz.ntmps48
  go_wp2_with (first | refine wpk_alloc HZ.out rfl rfl ?_)
  rw [← HW2.out]
  refine (rnew_any s W2).mono ?_
  rintro x w3 ⟨rfl, hw3⟩
  rw [← hw3] at HI HTH
  have HS3 := Lib.hid (show w3.heap.size = w.heap.size + 1 + 1 + 1 by rw [hw3, World.size_alloc, HSZ2.out])
  clear hw3
  go_wp2_with fail
  refine HTH.out.mono ?_
  rintro x w4 ⟨A4, e4, rfl, hp4, he4, hn4⟩
  have hsz4 := hn4.fr.size
  obtain ⟨c4, hc4⟩ : ∃ c, c = (thP 10 T).cells A4 := ⟨_, rfl⟩
  rw [show (thP 10 T).agg A4 = .agg c4 from by rw [hc4]; rfl]
  have HC4 := Lib.hid hc4
  have HCS := Lib.hid (show c4.size = 26 by rw [hc4]; rfl)
  have HC1 := Lib.hid (show c4.all (·.oneCell') = true by rw [hc4]; exact pk_one _ _)
  have hi4 := HI.out.step hn4
  obtain ⟨W5, hW5⟩ : ∃ W, W = w4.alloc (.cells c4 29) := ⟨_, rfl⟩
  have hb5 : Below w4.heap.size w4 W5 := by rw [hW5]; exact (Below.refl _ _).alloc (Nat.le_refl _) _
  have HJ := Lib.hid (show DcJ w W5 S W2.heap.size s T.R z w4.heap.size c4 from ⟨hi4.below hb5, by rw [hW5]; exact Blk.made _ _ _, by have := HS3.out; omega⟩)
  have HP5 := Lib.hid ((hp4 w.heap.size (by have := HS3.out; omega)).below hb5)
  have HE5 := Lib.hid (he4.later hb5)
  have HHI := Lib.hid (show w.heap.size ≤ w3.heap.size by have := HS3.out; omega)
  have HW5 := Lib.hid hW5
  clear hn4 hi4 hb5 hp4 hW5 hc4 HTH HI
  have hq := HQ.out
  by_cases h0 : T.e.no = 0
  · rw [if_pos h0] at hq
    unfold ErrOf at he4
    rw [if_pos h0] at he4
    subst he4
    have hp5 := HP5.out
    have hcc := HC4.out
    have eth : thP 10 T = pkS 10 T.id T.L [] [] [] := by unfold thP; rw [if_pos h0]
    rw [eth] at hp5 hcc
    have hpt := partsT_any (z' := w) HE.out HJ.out.inn.bel HJ.out.inn.low HJ.out.inn.rd (HTP.out h0) HSZ.out
    obtain ⟨⟨pe, P⟩, hpp⟩ : ∃ V, V = ptL (rdT s) s 32 [] T.R := ⟨_, rfl⟩
    rw [← hpp] at hpt hq
    have HPT := Lib.hid hpt
    have HQ2 := Lib.hid hq
    have HPK := Lib.hid (And.intro hp5.pr hp5.pc)
    have HCC := Lib.hid hcc
    clear hp5 hcc eth hpt hpp hq HP5 HC4 HQ HE5 h0 HTP
    go_wp2_with (first | refine wpk_alloc HZ.out rfl rfl ?_ | refine wpk_store_new HZS.out (c := c4) HCS.out HC1.out _ _ rfl rfl rfl rfl ?_)
    rw [← HW5.out]
    refine HPT.out.mono ?_
    rintro x w6 ⟨v6, e6, rfl, hr6, he6, R6, hn6⟩
    simp only at hr6 he6
    obtain ⟨a6, n6, c6, rfl, hnn6, hcc6⟩ := hr6.some_form
    have hsz5 := HJ.out.inn.bel.size
    have hj6 := HJ.out.step hn6
    have hpr6 := HPK.out.1.rnext HJ.out.inn.low HJ.out.inn.rd hn6
    have cX : w6.cell? ⟨w4.heap.size, 24, none⟩ = some (.slice A4.fa 0 A4.fc) := hj6.get (by rw [HCC.out]; rfl)
    have fX := hj6.box.frozen 24
    have hj7 := hj6.cell 24 (.slice a6 n6 c6)
    have hp7 : PIn (w6.setCell ⟨w4.heap.size, 24, none⟩ (.slice a6 n6 c6)) w.heap.size A4.pa T.L := hj6.pin (Nat.le_refl _) hpr6 _ _
    have he7 := hj6.err he6 24 (.slice a6 n6 c6)
    have hci : CIn (w6.setCell ⟨w4.heap.size, 24, none⟩ (.slice a6 n6 c6)) w.heap.size 9 a6 (P.flatMap tCell) := (hr6.cin (B' := w.heap.size)).cell hj6.box (by have := hj6.low; omega) (by decide) 24 _
    obtain ⟨y, hy⟩ : ∃ y, y = c4.setIfInBounds 24 (.slice a6 n6 c6) := ⟨_, rfl⟩
    rw [← hy] at hj7
    have hq := HQ2.out
    unfold dcU10 at hq
    by_cases h1 : pe.no = 0
    · rw [if_pos h1] at hq
      unfold ErrOf at he6
      rw [if_pos h1] at he6
      subst he6
      have ey : y = Q.2.cells ⟨A4.pa, A4.pc, A4.wa, A4.wc, A4.sa, A4.sc, a6, c6, A4.ca, A4.cc⟩ := by rw [hy, HCC.out, hq, hnn6]; rfl
      have hX := hj7.inn.good (p := Q.2) (A := ⟨A4.pa, A4.pc, A4.wa, A4.wc, A4.sa, A4.sc, a6, c6, A4.ca, A4.cc⟩) (by
        rw [hq]
        exact ⟨hp7, HPK.out.2, PIn.nil _ _ _, Nat.zero_le _, CIn.nil _ _ _ _, hci, CIn.nil _ _ _ _⟩) ey
      rw [show (e00, Q.2) = Q from by rw [hq]] at hX
      have HX := Lib.hid hX
      have HYS := Lib.hid (show y.size = 26 by rw [ey]; rfl)
      have HY1 := Lib.hid (show y.all (·.oneCell') = true by rw [ey]; exact pk_one _ _)
      have HBX := Lib.hid hj7.box
      have HRX := Lib.hid hj7.inn.res
      clear hr6 hn6 hj6 hpr6 hj7 hp7 he7 hci hy hq ey hX hnn6 hcc6 HPT HQ2
      go_wp2_with (first | refine wpk_load HBX.out HYS.out _ rfl rfl rfl ?_ | refine wpk_store HRX.out HZS.out HYS.out HY1.out _ _ rfl rfl rfl rfl ?_)
      exact bodyPost_ret (v := .tuple #[.agg y, .nilIface]) (res_pkt (i := 2) (j := 3) rfl rfl rfl HX.out.1 HYS.out) rfl HX.out.2
    · rw [if_neg h1] at hq
      obtain ⟨t6, u6, rfl⟩ := err_iface he6 h1
      have hX := hj7.inn.bad HZ.out (q := Q) (by rw [hq]) (e := .iface t6 u6) (by rw [hq]; exact he7)
      have HRX := Lib.hid hj7.inn.res
      have HX := Lib.hid hX
      clear hr6 hn6 hj6 hpr6 hj7 hp7 he7 he6 hci hy hq hX hnn6 hcc6 HPT HQ2
      go_wp2_with (first | refine wpk_build HZ.out rfl rfl ?_ | refine wpk_store HRX.out HZS.out HZS.out HZ1.out _ _ rfl rfl rfl rfl ?_)
      exact bodyPost_ret (v := .tuple #[.agg z, .iface t6 u6]) (res_pkt (i := 2) (j := 3) rfl rfl rfl HX.out.1 HZS.out) rfl HX.out.2
  · rw [if_neg h0] at hq
    obtain ⟨t4, u4, rfl⟩ := err_iface he4 h0
    have hX := HJ.out.inn.bad HZ.out (q := Q) (by rw [hq]) (e := .iface t4 u4) (by rw [hq]; exact HE5.out)
    have HRX := Lib.hid HJ.out.inn.res
    have HX := Lib.hid hX
    clear hX he4 hq HQ HE5 HP5
    go_wp2_with (first | refine wpk_alloc HZ.out rfl rfl ?_ | refine wpk_store_new HZS.out (c := c4) HCS.out HC1.out _ _ rfl rfl rfl rfl ?_ | refine wpk_build HZ.out rfl rfl ?_ | refine wpk_store (show Blk (w4.alloc (.cells c4 29)) (w.heap.size + 1) 29 z from by rw [← HW5.out]; exact HRX.out) HZS.out HZS.out HZ1.out _ _ rfl rfl rfl rfl ?_)
    rw [← HW5.out]
    exact bodyPost_ret (v := .tuple #[.agg z, .iface t4 u4]) (res_pkt (i := 2) (j := 3) rfl rfl rfl HX.out.1 HZS.out) rfl HX.out.2
set_option maxHeartbeats 16000000 in
theorem dec13_176 (hE : Env w S) (hs : s.size ≤ 900000) : Calls Tryz.prog 48 #[.agg #[.int .i64 176, .string s]] w (DcSays w S (dcU 176 s)) := by
  have HE := Lib.hid hE
  have HSZ := Lib.hid hs
  obtain ⟨z, hz⟩ : ∃ z, z = pk0.cells pa0 := ⟨_, rfl⟩
  have HZ := Lib.hid hz
  have HZS := Lib.hid (show z.size = 26 by rw [hz]; rfl)
  have HZ1 := Lib.hid (show z.all (·.oneCell') = true by rw [hz]; exact pk_one _ _)
  obtain ⟨Q, hQ⟩ : ∃ Q, Q = dcU 176 s := ⟨_, rfl⟩
  rw [← hQ]
  unfold dcU at hQ
  rw [show kU 176 = 11 from rfl, if_neg (by decide), if_neg (show ¬ (11 : Int) = 10 by decide)] at hQ
  obtain ⟨W2, hW2⟩ : ∃ W, W = (w.alloc (.cells #[.int .i64 176, .string s] 33)).alloc (.cells z 29) := ⟨_, rfl⟩
  have a1 : Below w.heap.size w (w.alloc (.cells #[.int .i64 176, .string s] 33)) := (Below.refl _ _).alloc (Nat.le_refl _) _
  have hb2 : Below w.heap.size w W2 := by rw [hW2]; exact a1.trans (((Below.refl (w.alloc (.cells #[.int .i64 176, .string s] 33)).heap.size _).alloc (Nat.le_refl _) (.cells z 29)).mono a1.size)
  have r1 : Blk W2 (w.heap.size + 1) 29 z := by
    have h := Blk.made (w.alloc (.cells #[.int .i64 176, .string s] 33)) 29 z
    rw [World.size_alloc] at h
    rw [hW2]; exact h
  have HSZ2 := Lib.hid (show W2.heap.size = w.heap.size + 1 + 1 by rw [hW2, World.size_alloc, World.size_alloc])
  have hb3 : Below W2.heap.size W2 (W2.alloc (.cells #[.string s, .int .i64 0, .nilIface] 157)) := (Below.refl _ _).alloc (Nat.le_refl _) _
  have HI := Lib.hid (show DcI w (W2.alloc (.cells #[.string s, .int .i64 0, .nilIface] 157)) S W2.heap.size s ⟨0, 0, 0⟩ z from ⟨hb2.trans (hb3.mono hb2.size), r1.below hb3 r1.lt, RObj.made W2 S s, hb2.size⟩)
  have HW2 := Lib.hid hW2
  have hth := th_any hE HI.out.bel HI.out.low HI.out.rd hs 11
  have hthn := fun hh => th_ok (k := 11) (s := s) hh
  obtain ⟨T, hT⟩ : ∃ T, T = thF 11 s := ⟨_, rfl⟩
  have hTP := fun hh => (hthn hh).no
  rw [← hT] at hth hQ hTP
  have HTH := Lib.hid hth
  have HTP := Lib.hid hTP
  have HQ := Lib.hid hQ
  clear hE hz hs hQ a1 hb2 r1 hb3 hW2 hth hthn hT hTP
  go_enter Tryz.func48, Tryz.ntmps48
  go_wp2_with (first | refine wpk_alloc HZ.out rfl rfl ?_)
  rw [← HW2.out]
  refine (rnew_any s W2).mono ?_
  rintro x w3 ⟨rfl, hw3⟩
  rw [← hw3] at HI HTH
  have HS3 := Lib.hid (show w3.heap.size = w.heap.size + 1 + 1 + 1 by rw [hw3, World.size_alloc, HSZ2.out])
  clear hw3
  go_wp2_with fail
  refine HTH.out.mono ?_
  rintro x w4 ⟨A4, e4, rfl, hp4, he4, hn4⟩
  have hsz4 := hn4.fr.size
  obtain ⟨c4, hc4⟩ : ∃ c, c = (thP 11 T).cells A4 := ⟨_, rfl⟩
  rw [show (thP 11 T).agg A4 = .agg c4 from by rw [hc4]; rfl]
  have HC4 := Lib.hid hc4
  have HCS := Lib.hid (show c4.size = 26 by rw [hc4]; rfl)
  have HC1 := Lib.hid (show c4.all (·.oneCell') = true by rw [hc4]; exact pk_one _ _)
  have hi4 := HI.out.step hn4
  obtain ⟨W5, hW5⟩ : ∃ W, W = w4.alloc (.cells c4 29) := ⟨_, rfl⟩
  have hb5 : Below w4.heap.size w4 W5 := by rw [hW5]; exact (Below.refl _ _).alloc (Nat.le_refl _) _
  have HJ := Lib.hid (show DcJ w W5 S W2.heap.size s T.R z w4.heap.size c4 from ⟨hi4.below hb5, by rw [hW5]; exact Blk.made _ _ _, by have := HS3.out; omega⟩)
  have HP5 := Lib.hid ((hp4 w.heap.size (by have := HS3.out; omega)).below hb5)
  have HE5 := Lib.hid (he4.later hb5)
  have HHI := Lib.hid (show w.heap.size ≤ w3.heap.size by have := HS3.out; omega)
  have HW5 := Lib.hid hW5
  clear hn4 hi4 hb5 hp4 hW5 hc4 HTH HI
  have hq := HQ.out
  by_cases h0 : T.e.no = 0
  · rw [if_pos h0] at hq
    unfold ErrOf at he4
    rw [if_pos h0] at he4
    subst he4
    have hp5 := HP5.out
    have hcc := HC4.out
    have eth : thP 11 T = pkS 11 T.id T.L [] [] [] := by unfold thP; rw [if_pos h0]
    rw [eth] at hp5 hcc
    have hpt := tc_any (z' := w) HE.out HJ.out.inn.bel HJ.out.inn.low HJ.out.inn.rd (HTP.out h0) HSZ.out 11
    obtain ⟨⟨pe, P⟩, hpp⟩ : ∃ V, V = ptL (rdC 11 s) s 32 [] T.R := ⟨_, rfl⟩
    rw [← hpp] at hpt hq
    have HPT := Lib.hid hpt
    have HQ2 := Lib.hid hq
    have HPK := Lib.hid (And.intro hp5.pr hp5.pc)
    have HCC := Lib.hid hcc
    clear hp5 hcc eth hpt hpp hq HP5 HC4 HQ HE5 h0 HTP
    go_wp2_with (first | refine wpk_alloc HZ.out rfl rfl ?_ | refine wpk_store_new HZS.out (c := c4) HCS.out HC1.out _ _ rfl rfl rfl rfl ?_)
    rw [← HW5.out]
    refine HPT.out.mono ?_
    rintro x w6 ⟨v6, e6, rfl, hr6, he6, R6, hn6⟩
    simp only at hr6 he6
    obtain ⟨a6, n6, c6, rfl, hnn6, hcc6⟩ := hr6.some_form
    have hsz5 := HJ.out.inn.bel.size
    have hj6 := HJ.out.step hn6
    have hpr6 := HPK.out.1.rnext HJ.out.inn.low HJ.out.inn.rd hn6
    have cX : w6.cell? ⟨w4.heap.size, 25, none⟩ = some (.slice A4.ca 0 A4.cc) := hj6.get (by rw [HCC.out]; rfl)
    have fX := hj6.box.frozen 25
    have hj7 := hj6.cell 25 (.slice a6 n6 c6)
    have hp7 : PIn (w6.setCell ⟨w4.heap.size, 25, none⟩ (.slice a6 n6 c6)) w.heap.size A4.pa T.L := hj6.pin (Nat.le_refl _) hpr6 _ _
    have he7 := hj6.err he6 25 (.slice a6 n6 c6)
    have hci : CIn (w6.setCell ⟨w4.heap.size, 25, none⟩ (.slice a6 n6 c6)) w.heap.size 3 a6 (P.flatMap iCell) := (hr6.cin (B' := w.heap.size)).cell hj6.box (by have := hj6.low; omega) (by decide) 25 _
    obtain ⟨y, hy⟩ : ∃ y, y = c4.setIfInBounds 25 (.slice a6 n6 c6) := ⟨_, rfl⟩
    rw [← hy] at hj7
    have hq := HQ2.out
    unfold dcU11 at hq
    by_cases h1 : pe.no = 0
    · rw [if_pos h1] at hq
      unfold ErrOf at he6
      rw [if_pos h1] at he6
      subst he6
      have ey : y = Q.2.cells ⟨A4.pa, A4.pc, A4.wa, A4.wc, A4.sa, A4.sc, A4.fa, A4.fc, a6, c6⟩ := by rw [hy, HCC.out, hq, hnn6]; rfl
      have hX := hj7.inn.good (p := Q.2) (A := ⟨A4.pa, A4.pc, A4.wa, A4.wc, A4.sa, A4.sc, A4.fa, A4.fc, a6, c6⟩) (by
        rw [hq]
        exact ⟨hp7, HPK.out.2, PIn.nil _ _ _, Nat.zero_le _, CIn.nil _ _ _ _, CIn.nil _ _ _ _, hci⟩) ey
      rw [show (e00, Q.2) = Q from by rw [hq]] at hX
      have HX := Lib.hid hX
      have HYS := Lib.hid (show y.size = 26 by rw [ey]; rfl)
      have HY1 := Lib.hid (show y.all (·.oneCell') = true by rw [ey]; exact pk_one _ _)
      have HBX := Lib.hid hj7.box
      have HRX := Lib.hid hj7.inn.res
      clear hr6 hn6 hj6 hpr6 hj7 hp7 he7 hci hy hq ey hX hnn6 hcc6 HPT HQ2
      go_wp2_with (first | refine wpk_load HBX.out HYS.out _ rfl rfl rfl ?_ | refine wpk_store HRX.out HZS.out HYS.out HY1.out _ _ rfl rfl rfl rfl ?_)
      exact bodyPost_ret (v := .tuple #[.agg y, .nilIface]) (res_pkt (i := 2) (j := 3) rfl rfl rfl HX.out.1 HYS.out) rfl HX.out.2
    · rw [if_neg h1] at hq
      obtain ⟨t6, u6, rfl⟩ := err_iface he6 h1
      have hX := hj7.inn.bad HZ.out (q := Q) (by rw [hq]) (e := .iface t6 u6) (by rw [hq]; exact he7)
      have HRX := Lib.hid hj7.inn.res
      have HX := Lib.hid hX
      clear hr6 hn6 hj6 hpr6 hj7 hp7 he7 he6 hci hy hq hX hnn6 hcc6 HPT HQ2
      go_wp2_with (first | refine wpk_build HZ.out rfl rfl ?_ | refine wpk_store HRX.out HZS.out HZS.out HZ1.out _ _ rfl rfl rfl rfl ?_)
      exact bodyPost_ret (v := .tuple #[.agg z, .iface t6 u6]) (res_pkt (i := 2) (j := 3) rfl rfl rfl HX.out.1 HZS.out) rfl HX.out.2
  · rw [if_neg h0] at hq
    obtain ⟨t4, u4, rfl⟩ := err_iface he4 h0
    have hX := HJ.out.inn.bad HZ.out (q := Q) (by rw [hq]) (e := .iface t4 u4) (by rw [hq]; exact HE5.out)
    have HRX := Lib.hid HJ.out.inn.res
    have HX := Lib.hid hX
    clear hX he4 hq HQ HE5 HP5
    go_wp2_with (first | refine wpk_alloc HZ.out rfl rfl ?_ | refine wpk_store_new HZS.out (c := c4) HCS.out HC1.out _ _ rfl rfl rfl rfl ?_ | refine wpk_build HZ.out rfl rfl ?_ | refine wpk_store (show Blk (w4.alloc (.cells c4 29)) (w.heap.size + 1) 29 z from by rw [← HW5.out]; exact HRX.out) HZS.out HZS.out HZ1.out _ _ rfl rfl rfl rfl ?_)
    rw [← HW5.out]
    exact bodyPost_ret (v := .tuple #[.agg z, .iface t4 u4]) (res_pkt (i := 2) (j := 3) rfl rfl rfl HX.out.1 HZS.out) rfl HX.out.2
theorem dec13 (hE : Env w S) (first : Int) (hs : s.size ≤ 900000) : Calls Tryz.prog 48 #[.agg #[.int .i64 first, .string s]] w (DcSays w S (dcU first s)) := by
  by_cases h1 : first = 162
  · subst h1; exact dec13_162 hE hs
  · by_cases h2 : first = 176
    · subst h2; exact dec13_176 hE hs
    · exact dec13_bad hE first h1 h2
end
end Go.Proofs.YtgpdfmmbjnjpoaaGreatDoor
namespace Go.Proofs.YtgpdfmmbjnjpoaaGreatDoor
set_option maxRecDepth 100000
open Go.ChangeShapes Go.WideShapes Go.RowKit Go.Deep Go.Extern.Stop Go.Stop Go.Extern
theorem enU_backS {p : Pk} (h : SmU p) (hno : (enU p).e.no = 0) : dcU (enU p).first (enU p).s = (e00, bareU p) := enU_back (small_mem h.1).1 (small_mem h.1).2 hno
theorem enU_lenS {p : Pk} (h : SmU p) : (enU p).s.size ≤ 150000 := enU_len h
theorem bareU_ok {p : Pk} (h : SmU p) : SmOk (bareU p) := by
  have h1 : (plL p.props).length ≤ 1000 := by rw [plL_len]; exact small_few h.1
  have h2 := h.2.1
  have h3 := h.2.2.1
  by_cases hk : p.kind = 10
  · rw [bareU_a hk]
    exact ⟨rfl, h1, Nat.zero_le _, (by show p.filters.length ≤ 1000; omega), Nat.zero_le _⟩
  · rw [bareU_b hk]
    exact ⟨rfl, h1, Nat.zero_le _, Nat.zero_le _, (by show p.codes.length ≤ 1000; omega)⟩
theorem deU_backS {first : Int} {s : ByteArray} (hss : s.size ≤ 2048) (h : (dcU first s).1.no = 0) : SmU (dcU first s).2 ∧ (enU (dcU first s).2).e.no = 0 ∧ dcU (enU (dcU first s).2).first (enU (dcU first s).2).s = (e00, (dcU first s).2) ∧ SmOk (dcU first s).2 := by
  obtain ⟨h1, h2, h3⟩ := deU_back hss h
  obtain ⟨l1, l2⟩ := dcU_lists first s
  have h4 := h1.2.1
  have h5 := h1.2.2.1
  exact ⟨h1, h2, h3, l1, small_few h1.1, (by rw [l2]; exact Nat.zero_le _), (by omega), (by omega)⟩
theorem phR_ok {p : Pk} (h : (encR p.kind p.props).no = 0) : phR p = (e00, phW p) := by
  unfold phR
  rw [if_pos h]
theorem phR_bad {p : Pk} (h : ¬ (encR p.kind p.props).no = 0) : phR p = (⟨(encR p.kind p.props).no, (encR p.kind p.props).r, (encR p.kind p.props).at_⟩, w0) := by
  unfold phR
  rw [if_neg h]
theorem tcell_at {w : World} {B : Nat} {A : Option Addr} {L : List ByteArray} (h : CIn w B 9 A (L.flatMap tCell)) (hp : 0 < L.length) : ∃ x off, A = some ⟨x, off, none⟩ ∧ (∀ k, k < L.length → w.cell? ⟨x, off + k, none⟩ = some (.string (L.getD k ⟨#[]⟩))) ∧ (x < B ∨ ∃ xs, w.heap[x]? = some (.cells xs 9 (0, 0))) := by
  obtain ⟨x, off, e, hc, hg⟩ := h (by rw [flat_len tCell 1 (fun _ => rfl)]; omega)
  exact ⟨x, off, e, fun k hk => hc k _ (tcell_get L k hk), hg⟩
section
variable {w w' : World} {S : Nat → Addr} {A : PkA} {p : Pk}
set_option maxHeartbeats 16000000 in
theorem enc13_10 (hE : Env w S) (h : PkIn w w.heap.size A p) (hS : SmU p) (hk : p.kind = 10) : Calls Tryz.prog 45 #[p.agg A] w (FrSays w S (enU p)) := by
  obtain ⟨q, hq⟩ : ∃ q, q = enU p := ⟨_, rfl⟩
  rw [← hq]
  have hwl := wrU_len hS
  have hwr : wrU p = p.filters.foldl stT (phW p) := wrU_a hk
  rw [hwr] at hwl
  unfold enU at hq
  rw [hwr, show fU p.kind = 162 from by rw [hk]; rfl, if_neg (by decide)] at hq
  obtain ⟨c, hc⟩ : ∃ c, c = p.cells A := ⟨_, rfl⟩
  rw [show p.agg A = .agg c from by rw [hc]; rfl]
  have HCS := Lib.hid (show c.size = 26 by rw [hc]; rfl)
  have hc0 : c[0]? = some (.int .i64 10) := by rw [hc, ← hk]; rfl
  have hcX : c[24]? = some (.slice A.fa p.filters.length A.fc) := by rw [hc]; rfl
  obtain ⟨W2, hW2⟩ : ∃ W, W = (w.alloc (.cells c 29)).alloc (.cells #[.int .i64 0, .string ⟨#[]⟩] 33) := ⟨_, rfl⟩
  have a1 : Below w.heap.size w (w.alloc (.cells c 29)) := (Below.refl _ _).alloc (Nat.le_refl _) _
  have hb2 : Below w.heap.size w W2 := by rw [hW2]; exact a1.trans (((Below.refl (w.alloc (.cells c 29)).heap.size _).alloc (Nat.le_refl _) (.cells #[.int .i64 0, .string ⟨#[]⟩] 33)).mono a1.size)
  have r0 : Blk W2 w.heap.size 29 c := by
    rw [hW2]; exact (Blk.made w 29 c).alloc (.cells #[.int .i64 0, .string ⟨#[]⟩] 33)
  have r1 : Blk W2 (w.heap.size + 1) 33 #[.int .i64 0, .string ⟨#[]⟩] := by
    have h := Blk.made (w.alloc (.cells c 29)) 33 #[.int .i64 0, .string ⟨#[]⟩]
    rw [World.size_alloc] at h
    rw [hW2]; exact h
  obtain ⟨W3, hW3⟩ : ∃ W, W = W2.alloc (.cells #[.slice none 0 0, .nilIface] 68) := ⟨_, rfl⟩
  have b3 : Below W2.heap.size W2 W3 := by rw [hW3]; exact (Below.refl _ _).alloc (Nat.le_refl _) _
  have hb3 := hb2.trans (b3.mono hb2.size)
  have ho : WObj W3 S w.heap.size (w.heap.size + 1 + 1) (.slice none 0 0) w0 := by
    rw [hW3, show w.heap.size + 1 + 1 = W2.heap.size from by rw [hW2, World.size_alloc, World.size_alloc]]
    exact WObj.made W2 S hb2.size
  have r03 := r0.below b3 r0.lt
  have k0 : W2.cell? ⟨w.heap.size, 0, none⟩ = some (.int .i64 10) := (r0.cell 0).trans hc0
  have hph := ph_any (A := A) (p := p) (hE.later hb3) ho ((h.below hb3).mono hb3.size) hS.1
  rw [show p.agg A = .agg c from by rw [hc]; rfl] at hph
  obtain ⟨⟨pe, V⟩, hpr⟩ : ∃ r, r = phR p := ⟨_, rfl⟩
  rw [← hpr] at hph
  have HPR := Lib.hid hpr
  have HPH := Lib.hid hph
  have HC0 := Lib.hid hc0
  have HCX := Lib.hid hcX
  have HW3 := Lib.hid hW3
  have HB3 := Lib.hid hb3
  have R0 := Lib.hid r03
  have R1 := Lib.hid (r1.below b3 r1.lt)
  have HO := Lib.hid ho
  have HE := Lib.hid hE
  have HQ := Lib.hid hq
  have HIN := Lib.hid (h.below hb3)
  have HSM := Lib.hid hS
  have HWL := Lib.hid hwl
  rw [hW2] at k0
  rw [hW2] at HW3
  clear hq hc hc0 hcX a1 hb2 r0 r1 hE h hS hW2 hW3 b3 hb3 ho r03 hph hk hwl hwr hpr
  go_enter Tryz.func45, Tryz.ntmps45
  go_wp2_with (first | refine wpk_box HCS.out _ rfl rfl rfl ?_ | refine wpk_load (show Blk (((w.alloc (.cells c 29)).alloc (.cells #[.int .i64 0, .string ⟨#[]⟩] 33)).alloc (.cells #[.slice none 0 0, .nilIface] 68)) w.heap.size 29 c from by rw [← HW3.out]; exact R0.out) HCS.out _ rfl rfl rfl ?_)
  rw [← HW3.out]
  refine HPH.out.mono ?_
  rintro x w4 ⟨e4, v4, rfl, he4, hn4⟩
  simp only at he4 hn4
  have r04 := hn4.blk HO.out R0.out (by decide) (by decide)
  have r14 := hn4.blk HO.out R1.out (by decide) (by decide)
  have hb4 := hn4.later HO.out HB3.out
  by_cases h0 : (encR p.kind p.props).no = 0
  · have hq := HQ.out
    rw [if_pos h0] at hq
    have hpr := HPR.out
    rw [phR_ok h0] at hpr
    obtain ⟨h1, h2⟩ := Prod.mk.inj hpr
    subst h1 h2
    unfold ErrOf at he4
    rw [if_pos (show e00.no = 0 from rfl)] at he4
    subst he4
    clear hpr HPR
    have HQ2 := Lib.hid hq
    have HO4 := Lib.hid hn4.obj
    have k0 : w4.cell? ⟨w.heap.size, 0, none⟩ = some (.int .i64 10) := (r04.cell 0).trans HC0.out
    have kX : w4.cell? ⟨w.heap.size, 24, none⟩ = some (.slice A.fa p.filters.length A.fc) := (r04.cell 24).trans HCX.out
    have HIN4 := Lib.hid (show CIn w4 w.heap.size 9 A.fa (p.filters.flatMap tCell) from HIN.out.fl.fr hn4.fr (fun g hg => by
      refine ⟨HO.out.own_ok g hg, fun xs hx => ?_⟩
      rcases List.mem_cons.1 hg with rfl | hg
      · obtain ⟨e, hb, _⟩ := HO.out.blk
        exact hb.other hx (by decide) rfl
      · cases hg))
    have R04 := Lib.hid r04
    have R14 := Lib.hid r14
    have HB4 := Lib.hid hb4
    clear hq hn4 r04 r14 hb4 HPH HO R0 R1 HB3 HW3 HIN HQ h0
    go_wp2_with fail
    obtain ⟨n, hn⟩ : ∃ n, n = p.filters.length := ⟨_, rfl⟩
    rw [← hn]
    have HN := Lib.hid hn
    have hn40 : n ≤ 40 := by have := HSM.out.2.1; omega
    clear hn kX k0
    go_loopw [30] (fun i wr => ∃ (k : Nat) (u : Value), k ≤ n ∧ i = .int .i64 k ∧ Hid (WNext w4 wr S w.heap.size (w.heap.size + 1 + 1) v4 u ((p.filters.take k).foldl stT (phW p)))) (fun i _ => n - (intOf i).toNat)
    case atStart => exact ⟨0, v4, by omega, rfl, Lib.hid (HO4.out.step (Below.refl _ _))⟩
    case round =>
      obtain ⟨k, u, hk, rfl, HJ⟩ := hrel
      by_cases hlt : k < n
      · have hkL : k < p.filters.length := by have := HN.out; omega
        obtain ⟨x, off, ex, hc, hx⟩ := tcell_at HIN4.out (by omega)
        have hcx : wr.cell? ⟨x, off + k, none⟩ = some (.string (p.filters.getD k ⟨#[]⟩)) := by
          refine (World.cell?_of_block (HJ.out.fr.block x (lt_of_cell' (hc k hkL)) (fun hm => ?_))).trans (hc k hkL)
          have hB := HO4.out.own_ok x hm
          rcases hx with hx | ⟨xs, hx⟩
          · omega
          · rcases List.mem_cons.1 hm with rfl | hm
            · obtain ⟨e, hb, _⟩ := HO4.out.blk
              exact hb.other hx (by decide) rfl
            · obtain ⟨_, _, cs, hh⟩ := HO4.out.row.lt x (own_list.1 hm)
              rw [hh] at hx
              injection hx with h1
              injection h1 with h1 h2 h3
              exact absurd h2 (by decide)
        have hst : (p.filters.take (k + 1)).foldl stT (phW p) = stepW ((p.filters.take k).foldl stT (phW p)) (textE (p.filters.getD k ⟨#[]⟩)) := by
          rw [List.take_succ_eq_append_getElem hkL, List.foldl_append, List.getD_eq_getElem?_getD, List.getElem?_eq_getElem hkL]
          rfl
        have hsz : (p.filters.getD k ⟨#[]⟩).size ≤ 2048 := by
          rw [List.getD_eq_getElem?_getD, List.getElem?_eq_getElem hkL]
          exact HSM.out.2.2.2 _ (List.getElem_mem hkL)
        have hlen : ((p.filters.take k).foldl stT (phW p)).L.length ≤ 800000 := by
          have h1 := foldT_len (p.filters.take k) (phW p) (fun x hx => HSM.out.2.2.2 x (List.mem_of_mem_take hx))
          have h2 := phW_len HSM.out.1
          have h3 : (p.filters.take k).length ≤ 40 := by rw [List.length_take]; omega
          omega
        have HU := Lib.hid (wtext_any (HE.out.later (HJ.out.later HO4.out HB4.out)) HJ.out.obj hlen (p.filters.getD k ⟨#[]⟩) (by omega))
        rw [← hst] at HU
        rw [ex]
        generalize p.filters.getD k ⟨#[]⟩ = cd at *
        have HJ2 := Lib.hid HJ.out
        clear hst hlen hc hx hsz ex
        go_wp2_with fail
        refine HU.out.mono ?_
        rintro x w5 ⟨rfl, u5, hn5⟩
        have HX := Lib.hid (HJ2.out.trans hn5)
        clear hn5 HU
        go_wp2_with fail
        go_roundw
        case rel => exact ⟨k + 1, u5, by omega, by go_num, HX⟩
        case measure => simp [intOf]; omega
      · obtain rfl : k = n := by omega
        have hj := HJ.out
        rw [List.take_of_length_le (by have := HN.out; omega)] at hj
        have r05 := hj.blk HO4.out R04.out (by decide) (by decide)
        have R15 := Lib.hid (hj.blk HO4.out R14.out (by decide) (by decide))
        have hb5 := hj.later HO4.out HB4.out
        have hfa := frame_any13 162 hj.obj (fun W1 hb => dec13 (HE.out.later (hb5.trans (hb.mono hb5.size))) 162 (show (⟨((p.filters.foldl stT (phW p))).L.toArray⟩ : ByteArray).size ≤ 900000 from by rw [bsize]; have := HWL.out; omega))
        rw [← HQ2.out] at hfa
        have HFA := Lib.hid hfa
        have HB5 := Lib.hid hb5
        clear hj r05 hb5 hfa
        go_wp2_with fail
        refine HFA.out.mono ?_
        rintro x wA ⟨e8, rfl, he8, hb8⟩
        have r1 := R15.out.below hb8 R15.out.lt
        have hb := HB5.out.trans (hb8.mono HB5.out.size)
        obtain ⟨⟨z0, z1, y0, y1⟩, ⟨z2, y2⟩, ⟨f0, f1⟩, ferr⟩ := fr_facts (S := S) r1 (.int .i64 q.first) (.string q.s)
        have hbf := (hb.setCell (p := ⟨w.heap.size + 1, 0, none⟩) (by show w.heap.size ≤ w.heap.size + 1; omega) (.int .i64 q.first)).setCell (p := ⟨w.heap.size + 1, 1, none⟩) (by show w.heap.size ≤ w.heap.size + 1; omega) (.string q.s)
        have HX := Lib.hid (show FrSays w S q (.returned (.tuple #[.agg #[.int .i64 q.first, .string q.s], e8])) _ from ⟨e8, rfl, ferr _ _ _ _ he8, hbf⟩)
        clear hb8 r1 hb ferr hbf he8 HFA
        go_wp2
        exact bodyPost_ret (v := .tuple #[.agg #[.int .i64 q.first, .string q.s], e8]) (by simp [results, Tryz.results45, go_sem, f0, f1]) rfl HX.out
  · have hq := HQ.out
    rw [if_neg h0] at hq
    have hpr := HPR.out
    rw [phR_bad h0] at hpr
    obtain ⟨h1, h2⟩ := Prod.mk.inj hpr
    subst h1 h2
    obtain ⟨te, ue, rfl⟩ := err_iface he4 h0
    clear hpr HPR
    obtain ⟨⟨z0, z1, y0, y1⟩, ⟨z2, y2⟩, ⟨f0, f1⟩, ferr⟩ := fr_facts (S := S) r14 (.int .i64 0) (.string ⟨#[]⟩)
    have hbf := (hb4.setCell (p := ⟨w.heap.size + 1, 0, none⟩) (by show w.heap.size ≤ w.heap.size + 1; omega) (.int .i64 0)).setCell (p := ⟨w.heap.size + 1, 1, none⟩) (by show w.heap.size ≤ w.heap.size + 1; omega) (.string ⟨#[]⟩)
    have HX := Lib.hid (show FrSays w S q (.returned (.tuple #[.agg #[.int .i64 0, .string ⟨#[]⟩], .iface te ue])) _ from by
      rw [hq]
      exact ⟨_, rfl, ferr _ _ _ _ he4, hbf⟩)
    clear ferr hbf he4 hq hn4 r04 r14 hb4 h0 HPH HQ
    go_wp2
    exact bodyPost_ret (v := .tuple #[.agg #[.int .i64 0, .string ⟨#[]⟩], .iface te ue]) (by simp [results, Tryz.results45, go_sem, f0, f1]) rfl HX.out
set_option maxHeartbeats 16000000 in
theorem enc13_11 (hE : Env w S) (h : PkIn w w.heap.size A p) (hS : SmU p) (hk : p.kind = 11) : Calls Tryz.prog 45 #[p.agg A] w (FrSays w S (enU p)) := by
  obtain ⟨q, hq⟩ : ∃ q, q = enU p := ⟨_, rfl⟩
  rw [← hq]
  have hwl := wrU_len hS
  have hwr : wrU p = p.codes.foldl stC (phW p) := wrU_b (by rw [hk]; decide)
  rw [hwr] at hwl
  unfold enU at hq
  rw [hwr, show fU p.kind = 176 from by rw [hk]; rfl, if_neg (by decide)] at hq
  obtain ⟨c, hc⟩ : ∃ c, c = p.cells A := ⟨_, rfl⟩
  rw [show p.agg A = .agg c from by rw [hc]; rfl]
  have HCS := Lib.hid (show c.size = 26 by rw [hc]; rfl)
  have hc0 : c[0]? = some (.int .i64 11) := by rw [hc, ← hk]; rfl
  have hcX : c[25]? = some (.slice A.ca p.codes.length A.cc) := by rw [hc]; rfl
  obtain ⟨W2, hW2⟩ : ∃ W, W = (w.alloc (.cells c 29)).alloc (.cells #[.int .i64 0, .string ⟨#[]⟩] 33) := ⟨_, rfl⟩
  have a1 : Below w.heap.size w (w.alloc (.cells c 29)) := (Below.refl _ _).alloc (Nat.le_refl _) _
  have hb2 : Below w.heap.size w W2 := by rw [hW2]; exact a1.trans (((Below.refl (w.alloc (.cells c 29)).heap.size _).alloc (Nat.le_refl _) (.cells #[.int .i64 0, .string ⟨#[]⟩] 33)).mono a1.size)
  have r0 : Blk W2 w.heap.size 29 c := by
    rw [hW2]; exact (Blk.made w 29 c).alloc (.cells #[.int .i64 0, .string ⟨#[]⟩] 33)
  have r1 : Blk W2 (w.heap.size + 1) 33 #[.int .i64 0, .string ⟨#[]⟩] := by
    have h := Blk.made (w.alloc (.cells c 29)) 33 #[.int .i64 0, .string ⟨#[]⟩]
    rw [World.size_alloc] at h
    rw [hW2]; exact h
  obtain ⟨W3, hW3⟩ : ∃ W, W = W2.alloc (.cells #[.slice none 0 0, .nilIface] 68) := ⟨_, rfl⟩
  have b3 : Below W2.heap.size W2 W3 := by rw [hW3]; exact (Below.refl _ _).alloc (Nat.le_refl _) _
  have hb3 := hb2.trans (b3.mono hb2.size)
  have ho : WObj W3 S w.heap.size (w.heap.size + 1 + 1) (.slice none 0 0) w0 := by
    rw [hW3, show w.heap.size + 1 + 1 = W2.heap.size from by rw [hW2, World.size_alloc, World.size_alloc]]
    exact WObj.made W2 S hb2.size
  have r03 := r0.below b3 r0.lt
  have k0 : W2.cell? ⟨w.heap.size, 0, none⟩ = some (.int .i64 11) := (r0.cell 0).trans hc0
  have hph := ph_any (A := A) (p := p) (hE.later hb3) ho ((h.below hb3).mono hb3.size) hS.1
  rw [show p.agg A = .agg c from by rw [hc]; rfl] at hph
  obtain ⟨⟨pe, V⟩, hpr⟩ : ∃ r, r = phR p := ⟨_, rfl⟩
  rw [← hpr] at hph
  have HPR := Lib.hid hpr
  have HPH := Lib.hid hph
  have HC0 := Lib.hid hc0
  have HCX := Lib.hid hcX
  have HW3 := Lib.hid hW3
  have HB3 := Lib.hid hb3
  have R0 := Lib.hid r03
  have R1 := Lib.hid (r1.below b3 r1.lt)
  have HO := Lib.hid ho
  have HE := Lib.hid hE
  have HQ := Lib.hid hq
  have HIN := Lib.hid (h.below hb3)
  have HSM := Lib.hid hS
  have HWL := Lib.hid hwl
  rw [hW2] at k0
  rw [hW2] at HW3
  clear hq hc hc0 hcX a1 hb2 r0 r1 hE h hS hW2 hW3 b3 hb3 ho r03 hph hk hwl hwr hpr
  go_enter Tryz.func45, Tryz.ntmps45
  go_wp2_with (first | refine wpk_box HCS.out _ rfl rfl rfl ?_ | refine wpk_load (show Blk (((w.alloc (.cells c 29)).alloc (.cells #[.int .i64 0, .string ⟨#[]⟩] 33)).alloc (.cells #[.slice none 0 0, .nilIface] 68)) w.heap.size 29 c from by rw [← HW3.out]; exact R0.out) HCS.out _ rfl rfl rfl ?_)
  rw [← HW3.out]
  refine HPH.out.mono ?_
  rintro x w4 ⟨e4, v4, rfl, he4, hn4⟩
  simp only at he4 hn4
  have r04 := hn4.blk HO.out R0.out (by decide) (by decide)
  have r14 := hn4.blk HO.out R1.out (by decide) (by decide)
  have hb4 := hn4.later HO.out HB3.out
  by_cases h0 : (encR p.kind p.props).no = 0
  · have hq := HQ.out
    rw [if_pos h0] at hq
    have hpr := HPR.out
    rw [phR_ok h0] at hpr
    obtain ⟨h1, h2⟩ := Prod.mk.inj hpr
    subst h1 h2
    unfold ErrOf at he4
    rw [if_pos (show e00.no = 0 from rfl)] at he4
    subst he4
    clear hpr HPR
    have HQ2 := Lib.hid hq
    have HO4 := Lib.hid hn4.obj
    have k0 : w4.cell? ⟨w.heap.size, 0, none⟩ = some (.int .i64 11) := (r04.cell 0).trans HC0.out
    have kX : w4.cell? ⟨w.heap.size, 25, none⟩ = some (.slice A.ca p.codes.length A.cc) := (r04.cell 25).trans HCX.out
    have HIN4 := Lib.hid (show CIn w4 w.heap.size 3 A.ca (p.codes.flatMap iCell) from HIN.out.cd.fr hn4.fr (fun g hg => by
      refine ⟨HO.out.own_ok g hg, fun xs hx => ?_⟩
      rcases List.mem_cons.1 hg with rfl | hg
      · obtain ⟨e, hb, _⟩ := HO.out.blk
        exact hb.other hx (by decide) rfl
      · cases hg))
    have R04 := Lib.hid r04
    have R14 := Lib.hid r14
    have HB4 := Lib.hid hb4
    clear hq hn4 r04 r14 hb4 HPH HO R0 R1 HB3 HW3 HIN HQ h0
    obtain ⟨n, hn⟩ : ∃ n, n = p.codes.length := ⟨_, rfl⟩
    rw [← hn] at kX
    have hpc := pc_any (z := w) HE.out HB4.out (Nat.le_refl _) HO4.out HIN4.out n A.cc hn (by have := HSM.out.2.2.1; omega) (by have := phW_len HSM.out.1; omega)
    have HPC := Lib.hid hpc
    clear hpc hn
    go_wp2_with fail
    refine HPC.out.mono ?_
    rintro x w5 ⟨rfl, u5, hj⟩
    have R15 := Lib.hid (hj.blk HO4.out R14.out (by decide) (by decide))
    have hb5 := hj.later HO4.out HB4.out
    have hfa := frame_any13 176 hj.obj (fun W1 hb => dec13 (HE.out.later (hb5.trans (hb.mono hb5.size))) 176 (show (⟨((p.codes.foldl stC (phW p))).L.toArray⟩ : ByteArray).size ≤ 900000 from by rw [bsize]; have := HWL.out; omega))
    rw [← HQ2.out] at hfa
    have HFA := Lib.hid hfa
    have HB5 := Lib.hid hb5
    clear hj hb5 hfa HPC kX k0
    go_wp2_with fail
    refine HFA.out.mono ?_
    rintro x wA ⟨e8, rfl, he8, hb8⟩
    have r1 := R15.out.below hb8 R15.out.lt
    have hb := HB5.out.trans (hb8.mono HB5.out.size)
    obtain ⟨⟨z0, z1, y0, y1⟩, ⟨z2, y2⟩, ⟨f0, f1⟩, ferr⟩ := fr_facts (S := S) r1 (.int .i64 q.first) (.string q.s)
    have hbf := (hb.setCell (p := ⟨w.heap.size + 1, 0, none⟩) (by show w.heap.size ≤ w.heap.size + 1; omega) (.int .i64 q.first)).setCell (p := ⟨w.heap.size + 1, 1, none⟩) (by show w.heap.size ≤ w.heap.size + 1; omega) (.string q.s)
    have HX := Lib.hid (show FrSays w S q (.returned (.tuple #[.agg #[.int .i64 q.first, .string q.s], e8])) _ from ⟨e8, rfl, ferr _ _ _ _ he8, hbf⟩)
    clear hb8 r1 hb ferr hbf he8 HFA
    go_wp2
    exact bodyPost_ret (v := .tuple #[.agg #[.int .i64 q.first, .string q.s], e8]) (by simp [results, Tryz.results45, go_sem, f0, f1]) rfl HX.out
  · have hq := HQ.out
    rw [if_neg h0] at hq
    have hpr := HPR.out
    rw [phR_bad h0] at hpr
    obtain ⟨h1, h2⟩ := Prod.mk.inj hpr
    subst h1 h2
    obtain ⟨te, ue, rfl⟩ := err_iface he4 h0
    clear hpr HPR
    obtain ⟨⟨z0, z1, y0, y1⟩, ⟨z2, y2⟩, ⟨f0, f1⟩, ferr⟩ := fr_facts (S := S) r14 (.int .i64 0) (.string ⟨#[]⟩)
    have hbf := (hb4.setCell (p := ⟨w.heap.size + 1, 0, none⟩) (by show w.heap.size ≤ w.heap.size + 1; omega) (.int .i64 0)).setCell (p := ⟨w.heap.size + 1, 1, none⟩) (by show w.heap.size ≤ w.heap.size + 1; omega) (.string ⟨#[]⟩)
    have HX := Lib.hid (show FrSays w S q (.returned (.tuple #[.agg #[.int .i64 0, .string ⟨#[]⟩], .iface te ue])) _ from by
      rw [hq]
      exact ⟨_, rfl, ferr _ _ _ _ he4, hbf⟩)
    clear ferr hbf he4 hq hn4 r04 r14 hb4 h0 HPH HQ
    go_wp2
    exact bodyPost_ret (v := .tuple #[.agg #[.int .i64 0, .string ⟨#[]⟩], .iface te ue]) (by simp [results, Tryz.results45, go_sem, f0, f1]) rfl HX.out
set_option maxHeartbeats 8000000 in
theorem enc13_other (hE : Env w S) (h1 : ¬ p.kind = 10) (h2 : ¬ p.kind = 11) : Calls Tryz.prog 45 #[p.agg A] w (FrSays w S (enU p)) := by
  obtain ⟨q, hq⟩ : ∃ q, q = enU p := ⟨_, rfl⟩
  rw [← hq]
  unfold enU at hq
  rw [if_pos (by unfold fU; rw [if_neg h1, if_neg h2])] at hq
  have HQ := Lib.hid hq
  obtain ⟨c, hc⟩ : ∃ c, c = p.cells A := ⟨_, rfl⟩
  rw [show p.agg A = .agg c from by rw [hc]; rfl]
  have hcs : c.size = 26 := by rw [hc]; rfl
  have hc0 : c[0]? = some (.int .i64 p.kind) := by rw [hc]; rfl
  have HCS := Lib.hid hcs
  generalize p.kind = kd at *
  obtain ⟨W3, hW3⟩ : ∃ W, W = (w.alloc (.cells c 29)).alloc (.cells #[.int .i64 0, .string ⟨#[]⟩] 33) := ⟨_, rfl⟩
  have a1 : Below w.heap.size w (w.alloc (.cells c 29)) := (Below.refl _ _).alloc (Nat.le_refl _) _
  have hb3 : Below w.heap.size w W3 := by rw [hW3]; exact a1.trans (((Below.refl (w.alloc (.cells c 29)).heap.size _).alloc (Nat.le_refl _) (.cells #[.int .i64 0, .string ⟨#[]⟩] 33)).mono a1.size)
  have r1 : Blk W3 (w.heap.size + 1) 33 #[.int .i64 0, .string ⟨#[]⟩] := by
    have h := Blk.made (w.alloc (.cells c 29)) 33 #[.int .i64 0, .string ⟨#[]⟩]
    rw [World.size_alloc] at h
    rw [hW3]; exact h
  have kA := (hE.later hb3).kArgument
  rw [hW3] at kA
  have HN := Lib.hid (new_err (w := W3) S 6 128 0)
  have HW3 := Lib.hid hW3
  have HB3 := Lib.hid hb3
  have R1 := Lib.hid r1
  clear hq hc hcs a1 hb3 r1 hE hW3
  go_enter Tryz.func45, Tryz.ntmps45
  go_wp2_with (refine wpk_box HCS.out _ rfl rfl rfl ?_)
  rw [← HW3.out]
  refine HN.out.mono ?_
  rintro x w5 ⟨e, rfl, he, hb⟩
  obtain ⟨te, ue, rfl⟩ := he.iface
  have r1 := R1.out.below hb R1.out.lt
  have hb5 := HB3.out.trans (hb.mono HB3.out.size)
  obtain ⟨⟨z0, z1, y0, y1⟩, ⟨z2, y2⟩, ⟨f0, f1⟩, ferr⟩ := fr_facts (S := S) r1 (.int .i64 0) (.string ⟨#[]⟩)
  have hbf := (hb5.setCell (p := ⟨w.heap.size + 1, 0, none⟩) (by show w.heap.size ≤ w.heap.size + 1; omega) (.int .i64 0)).setCell (p := ⟨w.heap.size + 1, 1, none⟩) (by show w.heap.size ≤ w.heap.size + 1; omega) (.string ⟨#[]⟩)
  have HX := Lib.hid (show FrSays w S q (.returned (.tuple #[.agg #[.int .i64 0, .string ⟨#[]⟩], .iface te ue])) _ from by
    rw [HQ.out]
    exact ⟨_, rfl, ferr _ _ _ _ (ErrOf.some (no := 7) (by decide) (by decide) he), hbf⟩)
  clear hb5 r1 ferr hbf he hb hc0 kA
  go_wp2
  exact bodyPost_ret (v := .tuple #[.agg #[.int .i64 0, .string ⟨#[]⟩], .iface te ue]) (by simp [results, Tryz.results45, go_sem, f0, f1]) rfl HX.out
theorem enc13 (hE : Env w S) (h : PkIn w w.heap.size A p) (hS : SmU p) : Calls Tryz.prog 45 #[p.agg A] w (FrSays w S (enU p)) := by
  by_cases h1 : p.kind = 10
  · exact enc13_10 hE h hS h1
  · by_cases h2 : p.kind = 11
    · exact enc13_11 hE h hS h2
    · exact enc13_other hE h1 h2
end
end Go.Proofs.YtgpdfmmbjnjpoaaGreatDoor
namespace Go.Proofs.YtgpdfmmbjnjpoaaGreatDoor
set_option maxRecDepth 100000
open Go.ChangeShapes Go.WideShapes Go.RowKit Go.Deep Go.Extern.Stop Go.Stop Go.Extern
section
variable {w w' : World} {A : PkA} {p : Pk}
set_option maxHeartbeats 16000000 in
theorem bare13 {B : Nat} (h : PkIn w B A p) (hBw : B ≤ w.heap.size) (hS : SmU p) : Calls Tryz.prog 49 #[p.agg A] w (BrSays w (bareU p)) := by
  have hm : p.props.length ≤ 1000 := small_few hS.1
  obtain ⟨q, hq⟩ : ∃ q, q = bareU p := ⟨_, rfl⟩
  rw [← hq]
  unfold bareU at hq
  obtain ⟨z, hz⟩ : ∃ z, z = pk0.cells pa0 := ⟨_, rfl⟩
  have HZ := Lib.hid hz
  have HZS := Lib.hid (show z.size = 26 by rw [hz]; rfl)
  obtain ⟨c, hc⟩ : ∃ c, c = p.cells A := ⟨_, rfl⟩
  rw [show p.agg A = .agg c from by rw [hc]; rfl]
  have hcs : c.size = 26 := by rw [hc]; rfl
  have hc0 : c[0]? = some (.int .i64 p.kind) := by rw [hc]; rfl
  have hc1 : c[1]? = some (.int .i64 p.id) := by rw [hc]; rfl
  have hc3 : c[3]? = some (.slice A.pa p.props.length A.pc) := by rw [hc]; rfl
  have hc24 : c[24]? = some (.slice A.fa p.filters.length A.fc) := by rw [hc]; rfl
  have hc25 : c[25]? = some (.slice A.ca p.codes.length A.cc) := by rw [hc]; rfl
  have HCS := Lib.hid hcs
  have a1 : Below w.heap.size w (w.alloc (.cells c 29)) := (Below.refl _ _).alloc (Nat.le_refl _) _
  obtain ⟨W2, hW2⟩ : ∃ W, W = (w.alloc (.cells c 29)).alloc (.cells z 29) := ⟨_, rfl⟩
  have hb2 : Below w.heap.size w W2 := by rw [hW2]; exact a1.trans (((Below.refl (w.alloc (.cells c 29)).heap.size _).alloc (Nat.le_refl _) (.cells z 29)).mono a1.size)
  have r0 : Blk W2 w.heap.size 29 c := by rw [hW2]; exact (Blk.made w 29 c).alloc (.cells z 29)
  have r1 : Blk W2 (w.heap.size + 1) 29 z := by
    have h := Blk.made (w.alloc (.cells c 29)) 29 z
    rw [World.size_alloc] at h
    rw [hW2]; exact h
  have HI := Lib.hid (show BrIn w c W2 from ⟨hb2, r0, z, r1, HZS.out⟩)
  have HW2 := Lib.hid hW2
  have HP := Lib.hid h
  have HC0 := Lib.hid hc0
  have HC1 := Lib.hid hc1
  have HC3 := Lib.hid hc3
  have HC24 := Lib.hid hc24
  have HC25 := Lib.hid hc25
  have HQ := Lib.hid hq
  clear hz hc hcs hc0 hc1 hc3 hc24 hc25 a1 hb2 r0 r1 hW2 h hq
  obtain ⟨kd, hkd⟩ : ∃ x, x = p.kind := ⟨_, rfl⟩
  rw [← hkd] at HC0
  have HKD := Lib.hid hkd
  clear hkd
  obtain ⟨id, hid⟩ : ∃ x, x = p.id := ⟨_, rfl⟩
  rw [← hid] at HC1
  have HID := Lib.hid hid
  clear hid
  go_enter Tryz.func49, Tryz.ntmps49
  go_wp2_with (first | refine wpk_box HCS.out _ rfl rfl rfl ?_ | refine wpk_alloc HZ.out rfl rfl ?_)
  rw [← HW2.out]
  refine wp_region_held_drew (S := fun W => BrIn w c W) (by kernel_rfl) ?_ (fun hHeld => ?_)
  · first | exact HI.out | exact HI.out.drewN 1
  refine wpAnyH_take (i := 0) (oi := { dst := some 4, op := Op.fieldAddr 29 (Operand.tmp 1) 0, type := 0, pos := _, after := _, guard := none }) (v := .pointer (some ⟨w.heap.size, 0, none⟩)) rfl (by kernel_rfl) (by kernel_rfl) (by kernel_rfl) (fun _ _ _ h => h) (Or.inl ⟨by rfl, fun w' hs => ?_⟩) (by assumption) ?_
  · go_simp
  simp only [Act.put, List.setIfInBounds_toArray, List.set_cons_zero, List.set_cons_succ]
  refine wpAnyH_take (i := 1) (oi := { dst := some 5, op := Op.load 3 (Operand.tmp 4), type := 3, pos := _, after := _, guard := none }) (v := .int .i64 kd) rfl (by kernel_rfl) (by kernel_rfl) (by kernel_rfl) (fun _ _ _ h => h) (Or.inl ⟨by rfl, fun w' hs => ?_⟩) (by assumption) ?_
  · have hh : w'.cell? ⟨w.heap.size, 0, none⟩ = some (.int .i64 kd) := (hs.box.cell 0).trans HC0.out
    go_simp
  simp only [Act.put, List.setIfInBounds_toArray, List.set_cons_zero, List.set_cons_succ]
  refine wpAnyH_take (i := 2) (oi := { dst := some 6, op := Op.fieldAddr 29 (Operand.tmp 1) 1, type := 0, pos := _, after := _, guard := none }) (v := .pointer (some ⟨w.heap.size, 1, none⟩)) rfl (by kernel_rfl) (by kernel_rfl) (by kernel_rfl) (fun _ _ _ h => h) (Or.inl ⟨by rfl, fun w' hs => ?_⟩) (by assumption) ?_
  · go_simp
  simp only [Act.put, List.setIfInBounds_toArray, List.set_cons_zero, List.set_cons_succ]
  refine wpAnyH_take (i := 3) (oi := { dst := some 7, op := Op.load 3 (Operand.tmp 6), type := 3, pos := _, after := _, guard := none }) (v := .int .i64 id) rfl (by kernel_rfl) (by kernel_rfl) (by kernel_rfl) (fun _ _ _ h => h) (Or.inl ⟨by rfl, fun w' hs => ?_⟩) (by assumption) ?_
  · have hh : w'.cell? ⟨w.heap.size, 1, none⟩ = some (.int .i64 id) := (hs.box.cell 1).trans HC1.out
    go_simp
  simp only [Act.put, List.setIfInBounds_toArray, List.set_cons_zero, List.set_cons_succ]
  refine wpAnyH_take (i := 4) (oi := { dst := some 8, op := Op.fieldAddr 29 (Operand.tmp 1) 3, type := 0, pos := _, after := _, guard := none }) (v := .pointer (some ⟨w.heap.size, 3, none⟩)) rfl (by kernel_rfl) (by kernel_rfl) (by kernel_rfl) (fun _ _ _ h => h) (Or.inl ⟨by rfl, fun w' hs => ?_⟩) (by assumption) ?_
  · go_simp
  simp only [Act.put, List.setIfInBounds_toArray, List.set_cons_zero, List.set_cons_succ]
  refine wpAnyH_take (i := 5) (oi := { dst := some 9, op := Op.load 22 (Operand.tmp 8), type := 22, pos := _, after := _, guard := none }) (v := .slice A.pa p.props.length A.pc) rfl (by kernel_rfl) (by kernel_rfl) (by kernel_rfl) (fun _ _ _ h => h) (Or.inl ⟨by rfl, fun w' hs => ?_⟩) (by assumption) ?_
  · have hh : w'.cell? ⟨w.heap.size, 3, none⟩ = some (.slice A.pa p.props.length A.pc) := (hs.box.cell 3).trans HC3.out
    go_simp
  simp only [Act.put, List.setIfInBounds_toArray, List.set_cons_zero, List.set_cons_succ]
  refine wpAnyH_ready (rs := [6, 8]) (by kernel_rfl) (by simp) ?_
  refine AllReadyH.cons (o := { dst := some 10, op := Op.call { callee := Callee.value (Operand.func 94), args := #[Operand.tmp 9], argTypes := #[22] }, type := 22, pos := _, after := _, guard := none }) rfl (fun K hK => ?_) (AllReadyH.cons (o := { dst := some 3, op := Op.alloc 29, type := 0, pos := _, after := _, guard := none }) rfl (fun K hK => ?_) AllReadyH.nil)
  case' refine_1 =>
    go_simp
    refine (rplain_any p.props.length A.pc rfl (HP.out.pr.below hHeld.bel) hm).mono ?_
    rintro x w5 ⟨a5, n5, c5, rfl, hn5, hr5, hb5⟩
    have hi5 := hHeld.below hb5
    have HR5 := Lib.hid hr5
    have HN5 := Lib.hid hn5
    clear hb5
    clear hn5 hr5
    go_wp2_with fail
    refine hK.out _ _ ?_ (fun hHeld6 => ?_)
    · exact hi5
    clear hK K
    try simp only [Act.put, List.setIfInBounds_toArray, List.set_cons_zero, List.set_cons_succ]
    refine wpAnyH_take (i := 7) (oi := { dst := some 11, op := Op.build 29 #[(0, Operand.tmp 5), (1, Operand.tmp 7), (3, Operand.tmp 10)], type := 29, pos := _, after := _, guard := none }) (v := .agg #[.int .i64 kd, .int .i64 id, .int .i64 0, .slice a5 n5 c5, .bool false, .int .i64 0, .string ⟨#[]⟩, .bool false, .string ⟨#[]⟩, .string ⟨#[]⟩, .int .i64 0, .bool false, .slice none 0 0, .bool false, .string ⟨#[]⟩, .bool false, .string ⟨#[]⟩, .bool false, .string ⟨#[]⟩, .string ⟨#[]⟩, .int .i64 0, .bool false, .bool false, .slice none 0 0, .slice none 0 0, .slice none 0 0]) rfl (by kernel_rfl) (by kernel_rfl) (by kernel_rfl) (fun _ _ _ h => h) (Or.inl ⟨by rfl, fun w' hs => ?_⟩) (by assumption) ?_
    · go_simp
    simp only [Act.put, List.setIfInBounds_toArray, List.set_cons_zero, List.set_cons_succ]
    refine wpAnyH_ready (rs := [8]) (by kernel_rfl) (by simp) ?_
    refine AllReadyH.cons (o := { dst := some 3, op := Op.alloc 29, type := 0, pos := _, after := _, guard := none }) rfl (fun K hK => ?_) AllReadyH.nil
    rw [if_pos (by kernel_rfl)]
    unfold Oper.wp execOp
    simp only [Instr.alloc, Sem.run_bind, zv_pkt, Result.andThen_ok, newVar, nr_pkt, Value.cells, Sem.run_pure]
    rw [← HZ.out]
    obtain ⟨k, hk, hk2, hi6, bk⟩ := hi5.made z
    refine hK _ _ ?_ (fun hHeld7 => ?_)
    · exact hi6
    clear hK K
    try simp only [Act.put, List.setIfInBounds_toArray, List.set_cons_zero, List.set_cons_succ]
    refine wpAnyH_ready (rs := [9]) (by kernel_rfl) (by simp) ?_
    refine AllReadyH.cons (o := { dst := none, op := Op.store 29 (Operand.tmp 3) (Operand.tmp 11), type := 0, pos := _, after := _, guard := none }) rfl (fun K hK => ?_) AllReadyH.nil
    rw [if_pos (by kernel_rfl)]
    obtain ⟨y, hy⟩ : ∃ y : Array Value, y = #[.int .i64 kd, .int .i64 id, .int .i64 0, .slice a5 n5 c5, .bool false, .int .i64 0, .string ⟨#[]⟩, .bool false, .string ⟨#[]⟩, .string ⟨#[]⟩, .int .i64 0, .bool false, .slice none 0 0, .bool false, .string ⟨#[]⟩, .bool false, .string ⟨#[]⟩, .bool false, .string ⟨#[]⟩, .string ⟨#[]⟩, .int .i64 0, .bool false, .bool false, .slice none 0 0, .slice none 0 0, .slice none 0 0] := ⟨_, rfl⟩
    have hys : y.size = 26 := by rw [hy]; rfl
    have hy1 : y.all (·.oneCell') = true := by rw [hy]; simp [Value.oneCell']
    refine wp_store_row 29 (Operand.tmp 3) (Operand.tmp 11) rfl k y (by rw [hk]; rfl) (by rw [hy]; rfl) 29 z bk (by rw [hys]; exact ip_pkt) (by rw [HZS.out, hys]) hy1 ?_
    have hi8 := hi6.far hk2 y
    refine hK _ _ ?_ (fun hHeld8 => ?_)
    · exact hi8
    have r3 := setRow_blk bk y
    have hpi := ((HR5.out.pin (B' := w.heap.size)).below ((Below.refl _ _).alloc (Nat.le_refl _) (.cells z 29))).row bk (by omega) y
    have HIF := Lib.hid hi8
    have HRF := Lib.hid r3
    have HPF := Lib.hid hpi
    have HKF := Lib.hid hk2
    have HYF := Lib.hid hy
    refine wpAnyH_done (by kernel_rfl) ?_ _
    generalize hWF : World.setRow _ k y = WF at HIF HRF HPF ⊢
    first | rw [← hk] | rw [show W2.heap.size = k from hk.symm]
    clear hK K hpi r3 hi8 hi5 hHeld hHeld6 hHeld7 hHeld8 bk hi6 hk2 hWF hk hy
  case' refine_2 =>
    rw [if_pos (by kernel_rfl)]
    unfold Oper.wp execOp
    simp only [Instr.alloc, Sem.run_bind, zv_pkt, Result.andThen_ok, newVar, nr_pkt, Value.cells, Sem.run_pure]
    rw [← HZ.out]
    obtain ⟨k, hk, hk2, hi6, bk⟩ := hHeld.made z
    refine hK _ _ ?_ (fun hHeld7 => ?_)
    · exact hi6
    clear hK K
    try simp only [Act.put, List.setIfInBounds_toArray, List.set_cons_zero, List.set_cons_succ]
    refine wpAnyH_ready (rs := [6]) (by kernel_rfl) (by simp) ?_
    refine AllReadyH.cons (o := { dst := some 10, op := Op.call { callee := Callee.value (Operand.func 94), args := #[Operand.tmp 9], argTypes := #[22] }, type := 22, pos := _, after := _, guard := none }) rfl (fun K hK => ?_) AllReadyH.nil
    go_simp
    refine (rplain_any p.props.length A.pc rfl (HP.out.pr.below hi6.bel) hm).mono ?_
    rintro x w5 ⟨a5, n5, c5, rfl, hn5, hr5, hb5⟩
    have hi5 := hi6.below hb5
    have HR5 := Lib.hid hr5
    have HN5 := Lib.hid hn5
    have bk5 := bk.below hb5 bk.lt
    clear hb5
    clear hn5 hr5
    go_wp2_with fail
    refine hK.out _ _ ?_ (fun hHeld6 => ?_)
    · exact hi5
    clear hK K
    try simp only [Act.put, List.setIfInBounds_toArray, List.set_cons_zero, List.set_cons_succ]
    refine wpAnyH_take (i := 7) (oi := { dst := some 11, op := Op.build 29 #[(0, Operand.tmp 5), (1, Operand.tmp 7), (3, Operand.tmp 10)], type := 29, pos := _, after := _, guard := none }) (v := .agg #[.int .i64 kd, .int .i64 id, .int .i64 0, .slice a5 n5 c5, .bool false, .int .i64 0, .string ⟨#[]⟩, .bool false, .string ⟨#[]⟩, .string ⟨#[]⟩, .int .i64 0, .bool false, .slice none 0 0, .bool false, .string ⟨#[]⟩, .bool false, .string ⟨#[]⟩, .bool false, .string ⟨#[]⟩, .string ⟨#[]⟩, .int .i64 0, .bool false, .bool false, .slice none 0 0, .slice none 0 0, .slice none 0 0]) rfl (by kernel_rfl) (by kernel_rfl) (by kernel_rfl) (fun _ _ _ h => h) (Or.inl ⟨by rfl, fun w' hs => ?_⟩) (by assumption) ?_
    · go_simp
    simp only [Act.put, List.setIfInBounds_toArray, List.set_cons_zero, List.set_cons_succ]
    refine wpAnyH_ready (rs := [9]) (by kernel_rfl) (by simp) ?_
    refine AllReadyH.cons (o := { dst := none, op := Op.store 29 (Operand.tmp 3) (Operand.tmp 11), type := 0, pos := _, after := _, guard := none }) rfl (fun K hK => ?_) AllReadyH.nil
    rw [if_pos (by kernel_rfl)]
    obtain ⟨y, hy⟩ : ∃ y : Array Value, y = #[.int .i64 kd, .int .i64 id, .int .i64 0, .slice a5 n5 c5, .bool false, .int .i64 0, .string ⟨#[]⟩, .bool false, .string ⟨#[]⟩, .string ⟨#[]⟩, .int .i64 0, .bool false, .slice none 0 0, .bool false, .string ⟨#[]⟩, .bool false, .string ⟨#[]⟩, .bool false, .string ⟨#[]⟩, .string ⟨#[]⟩, .int .i64 0, .bool false, .bool false, .slice none 0 0, .slice none 0 0, .slice none 0 0] := ⟨_, rfl⟩
    have hys : y.size = 26 := by rw [hy]; rfl
    have hy1 : y.all (·.oneCell') = true := by rw [hy]; simp [Value.oneCell']
    refine wp_store_row 29 (Operand.tmp 3) (Operand.tmp 11) rfl k y (by rw [hk]; rfl) (by rw [hy]; rfl) 29 z bk5 (by rw [hys]; exact ip_pkt) (by rw [HZS.out, hys]) hy1 ?_
    have hi8 := hi5.far hk2 y
    refine hK _ _ ?_ (fun hHeld8 => ?_)
    · exact hi8
    have r3 := setRow_blk bk5 y
    have hpi := (HR5.out.pin (B' := w.heap.size)).row bk5 (by omega) y
    have HIF := Lib.hid hi8
    have HRF := Lib.hid r3
    have HPF := Lib.hid hpi
    have HKF := Lib.hid hk2
    have HYF := Lib.hid hy
    refine wpAnyH_done (by kernel_rfl) ?_ _
    generalize hWF : World.setRow _ k y = WF at HIF HRF HPF ⊢
    first | rw [← hk] | rw [show W2.heap.size = k from hk.symm]
    clear hK K hpi r3 hi8 hi5 hHeld hHeld6 hHeld7 hHeld8 bk bk5 hi6 hk2 hWF hk hy
  all_goals
    have hlen : (plL p.props).length ≤ c5 := by
      obtain ⟨a', n', c', e', hn', hc'⟩ := HR5.out.some_form
      injection e' with e1 e2 e3
      omega
    have HLN := Lib.hid hlen
    have k0 : WF.cell? ⟨w.heap.size, 0, none⟩ = some (.int .i64 kd) := (HIF.out.box.cell 0).trans HC0.out
    clear hlen HI
    have hq := HQ.out
    rw [← HKD.out] at hq
    have hfl := HP.out.fl
    have hcd := HP.out.cd
    by_cases h10 : kd = 10
    · rw [if_pos h10] at hq
      have k24 : WF.cell? ⟨w.heap.size, 24, none⟩ = some (.slice A.fa p.filters.length A.fc) := (HIF.out.box.cell 24).trans HC24.out
      have x24 : WF.cell? ⟨k, 24, none⟩ = some (.slice none 0 0) := (HRF.out.cell 24).trans (by rw [HYF.out]; rfl)
      have f24 := HRF.out.frozen 24
      have hi9 := HIF.out.farc HKF.out 24 (.slice A.fa p.filters.length A.fc)
      have hr9 := HRF.out.store 24 (.slice A.fa p.filters.length A.fc)
      have hp9 := HPF.out.cell HRF.out (by have := HKF.out; omega) 24 (.slice A.fa p.filters.length A.fc)
      have hf9 : CIn (WF.setCell ⟨k, 24, none⟩ (.slice A.fa p.filters.length A.fc)) w.heap.size 9 A.fa (p.filters.flatMap tCell) := (((HP.out.fl.mono hBw).below HIF.out.bel)).cell HRF.out (by have := HKF.out; omega) (by decide) 24 _
      obtain ⟨y2, hy2⟩ : ∃ y2, y2 = y.setIfInBounds 24 (.slice A.fa p.filters.length A.fc) := ⟨_, rfl⟩
      rw [← hy2] at hr9
      have ey : y2 = q.cells ⟨a5, c5, none, 0, none, 0, A.fa, A.fc, none, 0⟩ := by rw [hy2, HYF.out, hq, ← HID.out, HN5.out]; rfl
      have hX := hi9.good (r := q) (A' := ⟨a5, c5, none, 0, none, 0, A.fa, A.fc, none, 0⟩) (by
        rw [hq]
        exact ⟨hp9, HLN.out, PIn.nil _ _ _, Nat.le_refl _, CIn.nil _ _ _ _, hf9, CIn.nil _ _ _ _⟩) ey
      obtain ⟨o, ho, hos⟩ := hi9.res
      have HO := Lib.hid ho
      have HOS := Lib.hid hos
      have HX := Lib.hid hX
      have HBX := Lib.hid hr9
      have HYS := Lib.hid (show y2.size = 26 by rw [ey]; rfl)
      have HY1 := Lib.hid (show y2.all (·.oneCell') = true by rw [ey]; exact pk_one _ _)
      clear hi9 hr9 hp9 hf9 hy2 ey hX ho hos hq hfl hcd HPF HRF HIF
      go_wp2_with (first | refine wpk_load HBX.out HYS.out _ rfl rfl rfl ?_ | refine wpk_store HO.out HOS.out HYS.out HY1.out _ _ rfl rfl rfl rfl ?_)
      exact bodyPost_ret (v := .agg y2) (res_pkt1 (i := 2) rfl rfl HX.out.1 HYS.out) rfl HX.out.2
    · rw [if_neg h10] at hq
      have k25 : WF.cell? ⟨w.heap.size, 25, none⟩ = some (.slice A.ca p.codes.length A.cc) := (HIF.out.box.cell 25).trans HC25.out
      have x25 : WF.cell? ⟨k, 25, none⟩ = some (.slice none 0 0) := (HRF.out.cell 25).trans (by rw [HYF.out]; rfl)
      have f25 := HRF.out.frozen 25
      have hi9 := HIF.out.farc HKF.out 25 (.slice A.ca p.codes.length A.cc)
      have hr9 := HRF.out.store 25 (.slice A.ca p.codes.length A.cc)
      have hp9 := HPF.out.cell HRF.out (by have := HKF.out; omega) 25 (.slice A.ca p.codes.length A.cc)
      have hf9 : CIn (WF.setCell ⟨k, 25, none⟩ (.slice A.ca p.codes.length A.cc)) w.heap.size 3 A.ca (p.codes.flatMap iCell) := (((HP.out.cd.mono hBw).below HIF.out.bel)).cell HRF.out (by have := HKF.out; omega) (by decide) 25 _
      obtain ⟨y2, hy2⟩ : ∃ y2, y2 = y.setIfInBounds 25 (.slice A.ca p.codes.length A.cc) := ⟨_, rfl⟩
      rw [← hy2] at hr9
      have ey : y2 = q.cells ⟨a5, c5, none, 0, none, 0, none, 0, A.ca, A.cc⟩ := by rw [hy2, HYF.out, hq, ← HID.out, HN5.out]; rfl
      have hX := hi9.good (r := q) (A' := ⟨a5, c5, none, 0, none, 0, none, 0, A.ca, A.cc⟩) (by
        rw [hq]
        exact ⟨hp9, HLN.out, PIn.nil _ _ _, Nat.le_refl _, CIn.nil _ _ _ _, CIn.nil _ _ _ _, hf9⟩) ey
      obtain ⟨o, ho, hos⟩ := hi9.res
      have HO := Lib.hid ho
      have HOS := Lib.hid hos
      have HX := Lib.hid hX
      have HBX := Lib.hid hr9
      have HYS := Lib.hid (show y2.size = 26 by rw [ey]; rfl)
      have HY1 := Lib.hid (show y2.all (·.oneCell') = true by rw [ey]; exact pk_one _ _)
      clear hi9 hr9 hp9 hf9 hy2 ey hX ho hos hq hfl hcd HPF HRF HIF
      go_wp2_with (first | refine wpk_load HBX.out HYS.out _ rfl rfl rfl ?_ | refine wpk_store HO.out HOS.out HYS.out HY1.out _ _ rfl rfl rfl rfl ?_)
      exact bodyPost_ret (v := .agg y2) (res_pkt1 (i := 2) rfl rfl HX.out.1 HYS.out) rfl HX.out.2
end
end Go.Proofs.YtgpdfmmbjnjpoaaGreatDoor
namespace Go.Proofs.YtgpdfmmbjnjpoaaGreatDoor
set_option maxRecDepth 100000
open Go.ChangeShapes Go.WideShapes Go.RowKit Go.Deep Go.Extern.Stop Go.Stop Go.Extern
def awU : Pk := pkS 10 7 [] [] [⟨#[97, 47, 35]⟩] []
def awV : Pk := pkS 11 1 [] [] [] [17]
theorem aw13_e : enU awU = ⟨e00, 162, ⟨#[0, 7, 0, 0, 3, 97, 47, 35]⟩⟩ := by kernel_rfl
theorem aw13_d : dcU 162 ⟨#[0, 7, 0, 0, 3, 97, 47, 35]⟩ = (e00, awU) := by kernel_rfl
theorem aw13_h : dcU 176 ⟨#[0, 1, 0, 17]⟩ = (e00, awV) := by kernel_rfl
theorem smU_aw : SmU awU := ⟨small_of8 (fun p hp => by cases hp) (by decide) (by decide), by decide, by decide, fun x hx => by obtain rfl := List.mem_singleton.mp (show x ∈ [(⟨#[97, 47, 35]⟩ : ByteArray)] from hx); decide⟩
theorem okU_aw : SmOk awU := ⟨rfl, Nat.zero_le _, Nat.zero_le _, by decide, Nat.zero_le _⟩
def paU (k : Nat) : PkA := ⟨none, 0, none, 0, none, 0, some ⟨k, 0, none⟩, 1, none, 0⟩
theorem pkU_in {w : World} {k : Nat} (h : Blk w k 9 #[.string ⟨#[97, 47, 35]⟩]) (B : Nat) : PkIn w B (paU k) awU := by
  refine ⟨PIn.nil _ _ _, Nat.zero_le _, PIn.nil _ _ _, Nat.zero_le _, CIn.nil _ _ _ _, ?_, CIn.nil _ _ _ _⟩
  intro _
  refine ⟨k, 0, rfl, fun j u hj => ?_, .inr ⟨_, h⟩⟩
  rw [Nat.zero_add]
  have hj' : ([Value.string ⟨#[97, 47, 35]⟩] : List Value)[j]? = some u := hj
  rw [← List.getElem?_toArray] at hj'
  exact (h.cell j).trans hj'
section
variable {w w' : World} {S : Nat → Addr}
set_option maxHeartbeats 8000000 in
theorem awake13 (hE : Env w S) : Calls Tryz.prog 44 #[] w fun x w' => x = .returned (.bool true) ∧ Below w.heap.size w w' := by
  have HE := Lib.hid hE
  obtain ⟨z, hz⟩ : ∃ z, z = pk0.cells pa0 := ⟨_, rfl⟩
  have HZ := Lib.hid hz
  have HZS := Lib.hid (show z.size = 26 by rw [hz]; rfl)
  obtain ⟨w0', hw0⟩ : ∃ W, W = w.alloc (.cells #[.string ⟨#[97, 47, 35]⟩] 9) := ⟨_, rfl⟩
  have b0 : Below w.heap.size w w0' := by rw [hw0]; exact (Below.refl _ _).alloc (Nat.le_refl _) _
  have rs : Blk w0' w.heap.size 9 #[.string ⟨#[97, 47, 35]⟩] := by rw [hw0]; exact Blk.made _ _ _
  have hs0 : w0'.heap.size = w.heap.size + 1 := by rw [hw0, World.size_alloc]
  obtain ⟨c1, hc1⟩ : ∃ c, c = awU.cells (paU w.heap.size) := ⟨_, rfl⟩
  have HC1 := Lib.hid hc1
  have HS1 := Lib.hid (show c1.size = 26 by rw [hc1]; rfl)
  have HO1 := Lib.hid (show c1.all (·.oneCell') = true by rw [hc1]; exact pk_one _ _)
  obtain ⟨W1, hW1⟩ : ∃ W, W = w0'.alloc (.cells c1 29) := ⟨_, rfl⟩
  have b01 : Below w0'.heap.size w0' W1 := by rw [hW1]; exact (Below.refl _ _).alloc (Nat.le_refl _) _
  have b1 := b0.trans (b01.mono b0.size)
  have RS := Lib.hid (rs.below b01 rs.lt)
  have hen := enc13 (p := awU) (A := paU w.heap.size) (hE.later b1) (pkU_in RS.out _) smU_aw
  rw [aw13_e, show awU.agg (paU w.heap.size) = .agg c1 from by rw [hc1]; rfl] at hen
  have HEN := Lib.hid hen
  have HB1 := Lib.hid b1
  have HW1 := Lib.hid hW1
  have K1 := Lib.hid (show Blk W1 (w.heap.size + 1) 29 c1 from by rw [hW1, ← hs0]; exact Blk.made w0' 29 c1)
  rw [hw0] at HW1
  have HL1 := Lib.hid (show Blk ((w.alloc (.cells #[.string ⟨#[97, 47, 35]⟩] 9)).alloc (.cells c1 29)) (w.heap.size + 1) 29 c1 from by rw [← HW1.out]; exact K1.out)
  have HL2 := Lib.hid (show Blk ((w.alloc (.cells #[.string ⟨#[97, 47, 35]⟩] 9)).alloc (.cells c1 29)) (w.alloc (.cells #[.string ⟨#[97, 47, 35]⟩] 9)).heap.size 29 c1 from by rw [World.size_alloc]; exact HL1.out)
  clear hE hz hc1 b0 rs hs0 b01 b1 hen hW1 hw0
  go_enter Tryz.func44, Tryz.ntmps44
  go_wp2_with (first | refine wpk_alloc HZ.out rfl rfl ?_ | refine wpk_store_new HZS.out (c := c1) HS1.out HO1.out _ _ rfl rfl rfl (by rw [HC1.out]; rfl) ?_ | refine wpk_load HL1.out HS1.out _ rfl rfl rfl ?_ | refine wpk_load HL2.out HS1.out _ rfl rfl rfl ?_)
  rw [← HW1.out]
  refine HEN.out.mono ?_
  rintro x w2 ⟨e2, rfl, he2, hb2⟩
  obtain rfl := err_zero8 he2 rfl
  simp only
  obtain ⟨W2, hW2⟩ : ∃ W, W = w2.alloc (.cells #[.int .i64 162, .string ⟨#[0, 7, 0, 0, 3, 97, 47, 35]⟩] 33) := ⟨_, rfl⟩
  have hb2' : Below w2.heap.size w2 W2 := by rw [hW2]; exact (Below.refl _ _).alloc (Nat.le_refl _) _
  have HB2 := Lib.hid ((HB1.out.trans (hb2.mono HB1.out.size)).trans (hb2'.mono (HB1.out.trans (hb2.mono HB1.out.size)).size))
  have K12 := Lib.hid ((K1.out.below hb2 K1.out.lt).below hb2' (K1.out.below hb2 K1.out.lt).lt)
  have K22 := Lib.hid (show Blk W2 w2.heap.size 33 #[.int .i64 162, .string ⟨#[0, 7, 0, 0, 3, 97, 47, 35]⟩] from by rw [hW2]; exact Blk.made _ _ _)
  have RS2 := Lib.hid ((RS.out.below hb2 RS.out.lt).below hb2' (RS.out.below hb2 RS.out.lt).lt)
  have hde := dec13 (HE.out.later HB2.out) (s := ⟨#[0, 7, 0, 0, 3, 97, 47, 35]⟩) 162 (by decide)
  rw [aw13_d] at hde
  have HDE := Lib.hid hde
  have HW2 := Lib.hid hW2
  clear hb2 hb2' hde hW2 HEN HB1 K1
  go_wp2_with fail
  rw [← HW2.out]
  refine HDE.out.mono ?_
  rintro x w3 ⟨A3, e3, rfl, hp3, he3, hb3⟩
  obtain rfl := err_zero8 he3 rfl
  simp only at hp3 ⊢
  obtain ⟨c3, hc3⟩ : ∃ c, c = awU.cells A3 := ⟨_, rfl⟩
  rw [show awU.agg A3 = .agg c3 from by rw [hc3]; rfl]
  have HC3 := Lib.hid hc3
  have HS3 := Lib.hid (show c3.size = 26 by rw [hc3]; rfl)
  have HO3 := Lib.hid (show c3.all (·.oneCell') = true by rw [hc3]; exact pk_one _ _)
  obtain ⟨W3, hW3⟩ : ∃ W, W = w3.alloc (.cells c3 29) := ⟨_, rfl⟩
  have hb3' : Below w3.heap.size w3 W3 := by rw [hW3]; exact (Below.refl _ _).alloc (Nat.le_refl _) _
  have HB3 := Lib.hid ((HB2.out.trans (hb3.mono HB2.out.size)).trans (hb3'.mono (HB2.out.trans (hb3.mono HB2.out.size)).size))
  have K13 := Lib.hid ((K12.out.below hb3 K12.out.lt).below hb3' (K12.out.below hb3 K12.out.lt).lt)
  have K23 := Lib.hid ((K22.out.below hb3 K22.out.lt).below hb3' (K22.out.below hb3 K22.out.lt).lt)
  have K33 := Lib.hid (show Blk W3 w3.heap.size 29 c3 from by rw [hW3]; exact Blk.made _ _ _)
  have P3 := Lib.hid (hp3.below hb3')
  have RS3 := Lib.hid ((RS2.out.below hb3 RS2.out.lt).below hb3' (RS2.out.below hb3 RS2.out.lt).lt)
  have hde := dec13 (HE.out.later HB3.out) (s := ⟨#[0, 1, 0, 17]⟩) 176 (by decide)
  rw [aw13_h] at hde
  have HDE := Lib.hid hde
  have HW3 := Lib.hid hW3
  clear hb3 hb3' hde hW3 hp3 HB2 K12 K22 hc3
  go_wp2_with (first | refine wpk_alloc HZ.out rfl rfl ?_ | refine wpk_store_new HZS.out (c := c3) HS3.out HO3.out _ _ rfl rfl rfl rfl ?_)
  rw [← HW3.out]
  refine HDE.out.mono ?_
  rintro x w5 ⟨A5, e5, rfl, hp5, he5, hb5⟩
  obtain rfl := err_zero8 he5 rfl
  simp only
  obtain ⟨c5, hc5⟩ : ∃ c, c = awV.cells A5 := ⟨_, rfl⟩
  rw [show awV.agg A5 = .agg c5 from by rw [hc5]; rfl]
  have HC50 := Lib.hid (show c5[0]? = some (.int .i64 11) by rw [hc5]; rfl)
  have HS5 := Lib.hid (show c5.size = 26 by rw [hc5]; rfl)
  have HO5 := Lib.hid (show c5.all (·.oneCell') = true by rw [hc5]; exact pk_one _ _)
  obtain ⟨W5, hW5⟩ : ∃ W, W = w5.alloc (.cells c5 29) := ⟨_, rfl⟩
  have hb5' : Below w5.heap.size w5 W5 := by rw [hW5]; exact (Below.refl _ _).alloc (Nat.le_refl _) _
  have HB5 := Lib.hid ((HB3.out.trans (hb5.mono HB3.out.size)).trans (hb5'.mono (HB3.out.trans (hb5.mono HB3.out.size)).size))
  have K15 := Lib.hid ((K13.out.below hb5 K13.out.lt).below hb5' (K13.out.below hb5 K13.out.lt).lt)
  have k25 := (K23.out.below hb5 K23.out.lt).below hb5' (K23.out.below hb5 K23.out.lt).lt
  have K35 := Lib.hid ((K33.out.below hb5 K33.out.lt).below hb5' (K33.out.below hb5 K33.out.lt).lt)
  have P5 := Lib.hid ((P3.out.below hb5).below hb5')
  have RS5 := Lib.hid ((RS3.out.below hb5 RS3.out.lt).below hb5' (RS3.out.below hb5 RS3.out.lt).lt)
  have K55 := Lib.hid (show Blk W5 w5.heap.size 29 c5 from by rw [hW5]; exact Blk.made _ _ _)
  have f0 : (w5.alloc (.cells c5 29)).cell? ⟨w2.heap.size, 0, none⟩ = some (.int .i64 162) := by rw [← hW5]; exact k25.cell 0
  have f1 : (w5.alloc (.cells c5 29)).cell? ⟨w2.heap.size, 1, none⟩ = some (.string ⟨#[0, 7, 0, 0, 3, 97, 47, 35]⟩) := by rw [← hW5]; exact k25.cell 1
  have KX3 := Lib.hid (show Blk (w5.alloc (.cells c5 29)) w3.heap.size 29 c3 from by rw [← hW5]; exact K35.out)
  have KX1 := Lib.hid (show Blk (w5.alloc (.cells c5 29)) (w.heap.size + 1) 29 c1 from by rw [← hW5]; exact K15.out)
  have hsm := same_ok (p := awU) (A2 := paU w.heap.size) P5.out (pkU_in RS5.out W5.heap.size) okU_aw
  rw [show awU.agg A3 = .agg c3 from by rw [HC3.out]; rfl, show awU.agg (paU w.heap.size) = .agg c1 from by rw [HC1.out]; rfl] at hsm
  have HSM := Lib.hid hsm
  have HW5 := Lib.hid hW5
  clear hb5 hb5' hW5 hp5 HB3 K13 K23 K33 P3 hc5 k25 hsm HDE
  go_wp2_with (first | refine wpk_alloc HZ.out rfl rfl ?_ | refine wpk_store_new HZS.out (c := c5) HS5.out HO5.out _ _ rfl rfl rfl rfl ?_ | refine wpk_load_g KX3.out HS3.out _ rfl rfl rfl ?_ | refine wpk_load_g KX1.out HS1.out _ rfl rfl rfl ?_)
  rw [← HW5.out]
  refine HSM.out.mono ?_
  rintro x w6 ⟨rfl, hb6⟩
  have HB6 := Lib.hid (HB5.out.trans (hb6.mono HB5.out.size))
  have k56 := K55.out.below hb6 K55.out.lt
  have g0 : w6.cell? ⟨w5.heap.size, 0, none⟩ = some (.int .i64 11) := (k56.cell 0).trans HC50.out
  clear hb6 f0 f1 HSM k56
  go_wp2_with fail
  refine (reason_nil w6).mono ?_
  rintro x w7 ⟨rfl, rfl⟩
  have HB7 := HB6
  clear g0
  go_wp2_with fail
  go_ret
  exact ⟨rfl, HB7.out⟩
end
end Go.Proofs.YtgpdfmmbjnjpoaaGreatDoor
