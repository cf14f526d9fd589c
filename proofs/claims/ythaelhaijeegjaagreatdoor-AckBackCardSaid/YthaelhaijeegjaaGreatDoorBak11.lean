/- What is proved here, on plain values: what package ack encodes is decoded as it was, with nothing of what its kind has not; and what is decoded is encoded, and decoded, as it was. Conditions: few bytes. -/
import Derived.Test.YthaelhaijeegjaaGreatDoorBar11
import Derived.Test.YthaelhaijeegjaaGreatDoorBak14
namespace Go.Proofs.YthaelhaijeegjaaGreatDoor
set_option maxRecDepth 100000
open Go.RowKit Go.Extern.Stop Go.Stop Go.Extern
theorem enA_bad {p : Pk} (h : (enA p).e.no ≠ 0) : (enA p).first = 0 ∧ (enA p).s = ⟨#[]⟩ := by
  unfold enA at h ⊢
  by_cases h1 : fA p.kind = 0
  · rw [if_pos h1]
    exact ⟨rfl, rfl⟩
  · rw [if_neg h1] at h ⊢
    by_cases h2 : (putR (wA p) p.kind p.reason p.props).1.no = 0
    · rw [if_pos h2] at h ⊢
      exact frR_bad h
    · rw [if_neg h2]
      exact ⟨rfl, rfl⟩
theorem dcA_bad {first : Int} {s : ByteArray} (h : (dcA first s).1.no ≠ 0) : (dcA first s).2 = pk0 := by
  unfold dcA at h ⊢
  by_cases c0 : kA first = 0
  · rw [if_pos c0]
  · rw [if_neg c0] at h ⊢
    by_cases c1 : (idR s ⟨0, 0, 0⟩).e.no = 0
    · rw [if_pos c1] at h ⊢
      by_cases c2 : (tkR (kA first) s (idR s ⟨0, 0, 0⟩).R2).e.no = 0
      · rw [if_pos c2] at h
        exact absurd rfl h
      · rw [if_neg c2]
    · rw [if_neg c1]
theorem dcA_ok {first k : Int} (hk : kA first = k) (h0 : ¬ k = 0) {s : ByteArray} (h1 : (idR s ⟨0, 0, 0⟩).e.no = 0) (h : (tkR k s (idR s ⟨0, 0, 0⟩).R2).e.no = 0) :
    dcA first s = (e00, pkR k (idR s ⟨0, 0, 0⟩).id (tkR k s (idR s ⟨0, 0, 0⟩).R2).code (tkR k s (idR s ⟨0, 0, 0⟩).R2).L) := by
  unfold dcA
  rw [hk, if_neg h0, if_pos h1, if_pos h]
theorem dcA_no {first k : Int} (hk : kA first = k) (h0 : ¬ k = 0) {s : ByteArray} (h : (dcA first s).1.no = 0) : (idR s ⟨0, 0, 0⟩).e.no = 0 ∧ (tkR k s (idR s ⟨0, 0, 0⟩).R2).e.no = 0 := by
  unfold dcA at h
  rw [hk, if_neg h0] at h
  by_cases h1 : (idR s ⟨0, 0, 0⟩).e.no = 0
  · rw [if_pos h1] at h
    by_cases h2 : (tkR k s (idR s ⟨0, 0, 0⟩).R2).e.no = 0
    · exact ⟨h1, h2⟩
    · rw [if_neg h2] at h
      exact absurd h h2
  · rw [if_neg h1] at h
    exact absurd h h1
/-- Behind PutReason without an error the bytes begin with what was there. -/
theorem putR_pre {W V : EV} {k reason : Int} {L : PL} {e : Er} (hp : putR W k reason L = (e, V)) (he : e.no = 0) (hV : V.no = 0) : W.no = 0 ∧ ∃ post, V.L = W.L ++ post := by
  unfold putR at hp
  by_cases h0 : L = []
  · rw [if_pos h0] at hp
    obtain ⟨rfl, rfl⟩ := Prod.mk.inj hp
    split at hV
    · rename_i hr
      rw [if_pos hr]
      exact ⟨hV, [], by rw [List.append_nil]⟩
    · rename_i hr
      rw [if_neg hr]
      obtain ⟨h1, _, h2⟩ := stepW_no hV
      exact ⟨h1, _, by rw [h2]⟩
  · rw [if_neg h0] at hp
    by_cases hen : (encR k L).no = 0
    · rw [if_pos hen] at hp
      obtain ⟨rfl, rfl⟩ := Prod.mk.inj hp
      obtain ⟨h1, _, h2⟩ := stepW_no hV
      obtain ⟨h3, _, h4⟩ := stepW_no h1
      exact ⟨h3, _, by rw [h2, h4]; simp only; rw [List.append_assoc]⟩
    · rw [if_neg hen] at hp
      obtain ⟨rfl, rfl⟩ := Prod.mk.inj hp
      exact absurd he hen
theorem wA_ok {p : Pk} (h : (wA p).no = 0) : ∃ m : Nat, p.id = m ∧ m < 256 ^ 2 ∧ (wA p).L = be 2 m ∧ (wA p).L.length = 2 := by
  unfold wA at h ⊢
  obtain ⟨_, h1, h2⟩ := stepW_no h
  obtain ⟨m, h3, h4, h5⟩ := numE_ok h1
  refine ⟨m, h3, h4, ?_, ?_⟩
  · rw [h2, h5]; rfl
  · rw [h2, h5]
    show (w0.L ++ be 2 m).length = 2
    rw [List.length_append, be_len]
    rfl
theorem idR_at {s : ByteArray} {m : Nat} {post : List UInt8} (hm : m < 256 ^ 2) (h0 : ¬ m = 0) (hs : s.data.toList = be 2 m ++ post) : idR s ⟨0, 0, 0⟩ = ⟨e00, m, ⟨2, 0, 0⟩⟩ := by
  have h := rNum_ok (s := s) (pre := []) (post := post) (k := 2) (n := m) hm (by rw [hs]; rfl) 0
  have h' : rNum s 2 ⟨0, 0, 0⟩ = (m, ⟨2, 0, 0⟩) := h
  unfold idR
  rw [h']
  simp only
  rw [if_pos trivial, if_neg h0]
theorem idR_zero {s : ByteArray} {post : List UInt8} (hs : s.data.toList = be 2 0 ++ post) : (idR s ⟨0, 0, 0⟩).e.no = 3 := by
  have h := rNum_ok (s := s) (pre := []) (post := post) (k := 2) (n := 0) (by decide) (by rw [hs]; rfl) 0
  have h' : rNum s 2 ⟨0, 0, 0⟩ = (0, ⟨2, 0, 0⟩) := h
  unfold idR
  rw [h']
  rfl
theorem idR_is {s : ByteArray} (h : (idR s ⟨0, 0, 0⟩).e.no = 0) : (idR s ⟨0, 0, 0⟩).id < 256 ^ 2 ∧ ¬ (idR s ⟨0, 0, 0⟩).id = 0 ∧ (idR s ⟨0, 0, 0⟩).R2.p ≤ s.size := by
  unfold idR at h ⊢
  by_cases h1 : (rNum s 2 ⟨0, 0, 0⟩).2.no = 0
  · rw [if_pos h1] at h ⊢
    by_cases h2 : (rNum s 2 ⟨0, 0, 0⟩).1 = 0
    · rw [if_pos h2] at h
      exact absurd (show (3 : Nat) = 0 from h) (by decide)
    · rw [if_neg h2]
      obtain ⟨k1, k2⟩ := rNum_is (s := s) (R := ⟨0, 0, 0⟩) (n := 2) rfl h1
      obtain ⟨_, _, k3⟩ := rTake_is (s := s) (R := ⟨0, 0, 0⟩) (n := 2) rfl h1
      refine ⟨k1, h2, ?_⟩
      show (rNum s 2 ⟨0, 0, 0⟩).2.p ≤ s.size
      rw [k2]
      exact k3
  · rw [if_neg h1] at h
    exact absurd h h1
/-- What is encoded is decoded as it was. -/
theorem en_backA2 {p : Pk} {k first : Int} (hk : p.kind = k) (hf : fA k = first) (hkf : kA first = k) (h0 : ¬ first = 0) (h1 : ¬ k = 0) (hsz : ∀ q ∈ p.props, q.s.size < 65536 ∧ q.v.size < 65536) (hl : (wrAll (actsL6 p.props)).L.length ≤ 268435455) (h : (enA p).e.no = 0) :
    dcA (enA p).first (enA p).s = (e00, bareA p) := by
  unfold bareA
  unfold enA at h ⊢
  rw [hk, hf, if_neg h0] at h ⊢
  obtain ⟨⟨pe, V⟩, hp⟩ : ∃ r, r = putR (wA p) k p.reason p.props := ⟨_, rfl⟩
  rw [← hp] at h ⊢
  simp only at h ⊢
  by_cases hpe : pe.no = 0
  · rw [if_pos hpe] at h ⊢
    obtain ⟨hV, hd, he⟩ := frR_ok h
    rw [he]
    simp only
    obtain ⟨hi, htk⟩ := dcA_no hkf h1 hd
    obtain ⟨hW, post, hpo⟩ := putR_pre hp.symm hpe hV
    obtain ⟨m, hm, hm2, hwl, hw2⟩ := wA_ok hW
    have hsl : (⟨V.L.toArray⟩ : ByteArray).data.toList = be 2 m ++ post := by rw [arr_list, hpo, hwl]
    have hm0 : ¬ m = 0 := by
      intro hz
      subst hz
      have h3 := idR_zero hsl
      omega
    have hir := idR_at hm2 hm0 hsl
    rw [hir] at htk
    have htk' : (tkR k ⟨V.L.toArray⟩ ⟨(wA p).L.length, 0, 0⟩).e.no = 0 := by rw [hw2]; exact htk
    have ha := put_alw hp.symm hpe hV ⟨V.L.toArray⟩ (arr_list _) 0 htk'
    obtain ⟨mr, hmr, ht⟩ := put_take hp.symm hpe hV hW hsz hl ha ⟨V.L.toArray⟩ (arr_list _) 0
    rw [hw2] at ht
    rw [dcA_ok hkf h1 hi (by rw [hir]; exact htk), hir]
    simp only
    rw [ht, hmr, hm]
  · rw [if_neg hpe] at h
    exact absurd h hpe
theorem kinds_A {p : Pk} (h : (enA p).e.no = 0) : p.kind = 4 ∨ p.kind = 5 ∨ p.kind = 6 ∨ p.kind = 7 := by
  by_cases h4 : p.kind = 4
  · exact .inl h4
  · by_cases h5 : p.kind = 5
    · exact .inr (.inl h5)
    · by_cases h6 : p.kind = 6
      · exact .inr (.inr (.inl h6))
      · by_cases h7 : p.kind = 7
        · exact .inr (.inr (.inr h7))
        · exfalso
          unfold enA at h
          rw [if_pos (by unfold fA; rw [if_neg h4, if_neg h5, if_neg h6, if_neg h7])] at h
          exact absurd (show (7 : Nat) = 0 from h) (by decide)
theorem en_backA {p : Pk} (hsz : ∀ q ∈ p.props, q.s.size < 65536 ∧ q.v.size < 65536) (hl : (wrAll (actsL6 p.props)).L.length ≤ 268435455) (h : (enA p).e.no = 0) : dcA (enA p).first (enA p).s = (e00, bareA p) := by
  rcases kinds_A h with hk | hk | hk | hk
  · exact en_backA2 (first := 64) hk rfl rfl (by decide) (by decide) hsz hl h
  · exact en_backA2 (first := 80) hk rfl rfl (by decide) (by decide) hsz hl h
  · exact en_backA2 (first := 98) hk rfl rfl (by decide) (by decide) hsz hl h
  · exact en_backA2 (first := 112) hk rfl rfl (by decide) (by decide) hsz hl h
/-- What is decoded is encoded. -/
theorem de_encA {k first : Int} (hf : fA k = first) (hkf : kA first = k) (h0 : ¬ first = 0) (h1 : ¬ k = 0) {m code : Nat} {L : PL} (hm : m < 256 ^ 2) (hm0 : ¬ m = 0) (t1 : code < 256) (t2 : code ≠ 0 ∨ L ≠ [] → allowedB k code = true) (t3 : ∀ p ∈ L, EncP p) (t5 : (chkL k L).1 = 0) (hl : (catE (actsL6 L)).length ≤ 60000) :
    (enA (pkR k m code L)).e.no = 0 := by
  obtain ⟨e1, e2⟩ := enc_all t3
  have hnum : (numE 1 (code : Int)).no = 0 := by
    unfold numE
    rw [if_neg (by omega)]
  have hnum2 : (numE 2 (m : Int)).no = 0 := by
    unfold numE
    rw [if_neg (by omega)]
  have hw : (wA (pkR k m code L)).no = 0 := by
    unfold wA
    rw [show (pkR k m code L).id = m from rfl, stepW_ok rfl hnum2]
  obtain ⟨m2, hm2, _, hwl, hw2⟩ := wA_ok hw
  have hmm : m2 = m := by
    have : (m : Int) = m2 := hm2
    omega
  subst hmm
  unfold enA
  rw [show (pkR k m2 code L).kind = k from rfl, show (pkR k m2 code L).reason = code from rfl, show (pkR k m2 code L).props = L from rfl, hf, if_neg h0]
  generalize wA (pkR k m2 code L) = W at *
  obtain ⟨⟨pe, V⟩, hp⟩ : ∃ r, r = putR W k code L := ⟨_, rfl⟩
  rw [← hp]
  simp only
  have hpv : pe.no = 0 ∧ V.no = 0 := by
    unfold putR at hp
    by_cases hL : L = []
    · rw [if_pos hL] at hp
      obtain ⟨rfl, rfl⟩ := Prod.mk.inj hp
      refine ⟨rfl, ?_⟩
      split
      · exact hw
      · rw [stepW_ok hw hnum]
    · rw [if_neg hL, if_pos (encR_of t5 e1)] at hp
      obtain ⟨rfl, rfl⟩ := Prod.mk.inj hp
      refine ⟨rfl, ?_⟩
      rw [stepW_ok (by rw [stepW_ok hw hnum]) rfl]
  rw [if_pos hpv.1]
  have hsz : ∀ q ∈ L, q.s.size < 65536 ∧ q.v.size < 65536 := fun q hq => (t3 q hq).2.2
  obtain ⟨m', hm', ht⟩ := put_take hp.symm hpv.1 hpv.2 hw hsz (by rw [e2]; omega) (fun hor => t2 (by
    rcases hor with hr | hr
    · exact .inl (by omega)
    · exact .inr hr)) ⟨V.L.toArray⟩ (arr_list _) 0
  rw [hw2] at ht
  obtain ⟨_, post, hpo⟩ := putR_pre hp.symm hpv.1 hpv.2
  have hir := idR_at (s := ⟨V.L.toArray⟩) hm hm0 (by rw [arr_list, hpo, hwl])
  rw [frR_of hpv.2 (by rw [dcA_ok hkf h1 (by rw [hir]; rfl) (by rw [hir, ht]; rfl)]; rfl)]
  rfl
/-- What is decoded has few parts, is encoded, and is decoded as it was. -/
theorem de_backA {first : Int} {s : ByteArray} (hss : s.size ≤ 2048) (h : (dcA first s).1.no = 0) :
    SmallP (dcA first s).2.props ∧ (enA (dcA first s).2).e.no = 0 ∧ dcA (enA (dcA first s).2).first (enA (dcA first s).2).s = (e00, (dcA first s).2) := by
  have key : ∀ k : Int, fA k = first → kA first = k → ¬ first = 0 → ¬ k = 0 → SmallP (dcA first s).2.props ∧ (enA (dcA first s).2).e.no = 0 ∧ dcA (enA (dcA first s).2).first (enA (dcA first s).2).s = (e00, (dcA first s).2) := by
    intro k hf hkf h0 h1
    obtain ⟨hi, htk⟩ := dcA_no hkf h1 h
    rw [dcA_ok hkf h1 hi htk]
    obtain ⟨i1, i2, i3⟩ := idR_is hi
    obtain ⟨t1, t2, t3, t4, t5, t6⟩ := take_put (idR_no hi) i3 htk
    have hen := de_encA hf hkf h0 h1 i1 i2 t1 t2 t3 t5 (Nat.le_trans t4 (by omega))
    have hsz : ∀ q ∈ (tkR k s (idR s ⟨0, 0, 0⟩).R2).L, q.s.size < 65536 ∧ q.v.size < 65536 := fun q hq => (t3 q hq).2.2
    have hbk := en_backA (p := pkR k (idR s ⟨0, 0, 0⟩).id (tkR k s (idR s ⟨0, 0, 0⟩).R2).code (tkR k s (idR s ⟨0, 0, 0⟩).R2).L) hsz (by
      show (wrAll (actsL6 (tkR k s (idR s ⟨0, 0, 0⟩).R2).L)).L.length ≤ _
      rw [(enc_all t3).2]
      omega) hen
    refine ⟨small_of t3 t6 (Nat.le_trans t4 (by omega)), hen, hbk.trans ?_⟩
    show (e00, pkR k _ _ (plL (tkR k s (idR s ⟨0, 0, 0⟩).R2).L)) = _
    rw [plL_same fun p hp => (t3 p hp).1]
    rfl
  by_cases h1 : first = 64
  · subst h1; exact key 4 rfl rfl (by decide) (by decide)
  · by_cases h2 : first = 80
    · subst h2; exact key 5 rfl rfl (by decide) (by decide)
    · by_cases h3 : first = 98
      · subst h3; exact key 6 rfl rfl (by decide) (by decide)
      · by_cases h4 : first = 112
        · subst h4; exact key 7 rfl rfl (by decide) (by decide)
        · exfalso
          unfold dcA at h
          rw [if_pos (by unfold kA; rw [if_neg h1, if_neg h2, if_neg h3, if_neg h4])] at h
          exact absurd (show (2 : Nat) = 0 from h) (by decide)
end Go.Proofs.YthaelhaijeegjaaGreatDoor
