/- What is proved here: plain lists: what is read may be; what may be is read as it was written. No conditions but few bytes. What is proved here: what the statements of layer 6 hold awake. Condition: what the rows list of the package's variables. -/
import Derived.Test.YtnolnhpmpjgnaaaGreatDoorSam06
namespace Go.Proofs.YtnolnhpmpjgnaaaGreatDoor
set_option maxRecDepth 100000
open Go.RowKit Go.Extern.Stop Go.Stop Go.Extern
/-- All properties may be there. -/
def OkL (place : Int) (L : PL) : Prop := ∀ k, k < L.length → (propErr place (L.take k) (L.getD k p0)).1 = 0
theorem getD_app {L : PL} (p : PV) (M : PL) : (L ++ p :: M).getD L.length p0 = p := by
  rw [List.getD_eq_getElem?_getD, List.getElem?_append_right (Nat.le_refl _), Nat.sub_self]
  rfl
theorem okL_snoc {place : Int} {L : PL} {p : PV} (h : OkL place L) (hp : (propErr place L p).1 = 0) : OkL place (L ++ [p]) := by
  intro k hk
  rw [List.length_append, List.length_singleton] at hk
  by_cases hlt : k < L.length
  · rw [List.take_append_of_le_length (by omega), List.getD_eq_getElem?_getD, List.getElem?_append_left hlt, ← List.getD_eq_getElem?_getD]
    exact h k hlt
  · obtain rfl : k = L.length := by omega
    rw [List.take_left, getD_app]
    exact hp
theorem okL_chk {place : Int} {L : PL} (h : OkL place L) : ∀ n k, L.length - k = n → chkFrom place L k (L.drop k) = (0, 0, 0) := by
  intro n
  induction n with
  | zero =>
    intro k hk
    rw [List.drop_eq_nil_of_le (by omega)]
    rfl
  | succ n ih =>
    intro k hk
    rw [chk_go (by omega) (h k (by omega))]
    exact ih (k + 1) (by omega)
theorem chk_okL {place : Int} {L : PL} : ∀ n k, L.length - k = n → (chkFrom place L k (L.drop k)).1 = 0 → ∀ j, k ≤ j → j < L.length → (propErr place (L.take j) (L.getD j p0)).1 = 0 := by
  intro n
  induction n with
  | zero => intro k hk _ j h1 h2; omega
  | succ n ih =>
    intro k hk h j h1 h2
    by_cases hp : (propErr place (L.take k) (L.getD k p0)).1 = 0
    · rw [chk_go (by omega) hp] at h
      rcases Nat.lt_or_eq_of_le h1 with hlt | rfl
      · exact ih (k + 1) (by omega) h j hlt h2
      · exact hp
    · rw [chk_stop (by omega) hp] at h
      exact absurd h hp
theorem okL_iff {place : Int} {L : PL} (h : (chkL place L).1 = 0) : OkL place L := fun k hk => chk_okL L.length 0 (by omega) h k (Nat.zero_le _) hk
theorem val_id (i : Int) (s : ByteArray) (R : RV) : (valF i s R).1.id = i := by unfold valF; (repeat' split) <;> rfl
theorem prop_ok {place : Int} {L : PL} {p : PV} (h1 : (idErr place L p.id).1 = 0) (h2 : numI p.id p.n = true) : (propErr place L p).1 = 0 := by
  unfold propErr
  rw [if_pos h1, if_pos h2]
theorem prop_of {place : Int} {L : PL} {p : PV} (h : (propErr place L p).1 = 0) : (idErr place L p.id).1 = 0 ∧ numI p.id p.n = true := by
  unfold propErr at h
  split at h
  · rename_i h1
    split at h
    · rename_i h2
      exact ⟨h1, h2⟩
    · cases h
  · rename_i h1
    exact absurd h h1
theorem next_may {place : Int} {L : PL} {base : Nat} {s : ByteArray} {R : RV} (h : (nextF place L base s R).no = 0) : (propErr place L (nextF place L base s R).p).1 = 0 := by
  unfold nextF at h ⊢
  split at h
  · rename_i h1
    rw [if_pos h1]
    split at h
    · rename_i h2
      rw [if_pos h2]
      split at h
      · rename_i h3
        rw [if_pos h3]
        split at h
        · rename_i h4
          rw [if_pos h4]
          refine prop_ok ?_ h4
          rw [val_id]
          exact h2
        · cases h
      · rename_i h3; exact absurd h h3
    · rename_i h2; exact absurd h h2
  · rename_i h1; exact absurd h h1
theorem loop_may (place : Int) (base : Nat) (t : ByteArray) : ∀ f L R, OkL place L → OkL place (rdLoop place base t f L R).L ∧ ((rdLoop place base t f L R).no ≠ 0 → (rdLoop place base t f L R).L = []) := by
  intro f
  induction f with
  | zero => intro L R h; exact ⟨h, fun hn => absurd rfl hn⟩
  | succ f ih =>
    intro L R h
    rw [rdLoop]
    split
    · exact ⟨h, fun hn => absurd rfl hn⟩
    · split
      · rename_i hn
        exact ih _ _ (okL_snoc h (next_may hn))
      · exact ⟨fun k hk => absurd hk (by simp), fun _ => rfl⟩
/-- What is read may be; with an error, nothing is read. -/
theorem read_may (place : Int) (s : ByteArray) (R : RV) : (chkL place (readF place s R).1.L).1 = 0 ∧ ((readF place s R).1.no ≠ 0 → (readF place s R).1.L = []) ∧ (readF place s R).1.L.length ≤ 64 := by
  have key : OkL place (readF place s R).1.L ∧ ((readF place s R).1.no ≠ 0 → (readF place s R).1.L = []) := by
    unfold readF
    split
    · exact loop_may place _ _ _ [] _ (fun k hk => absurd hk (by simp))
    · exact ⟨fun k hk => absurd hk (by simp), fun _ => rfl⟩
  refine ⟨by unfold chkL; rw [show (readF place s R).1.L = (readF place s R).1.L.drop 0 from rfl]; exact congrArg Prod.fst (okL_chk key.1 _ 0 rfl), key.2, ?_⟩
  by_cases h : (readF place s R).1.L.length ≤ 64
  · exact h
  · have h1 := id_64 (prop_of (key.1 64 (by omega))).1
    rw [List.length_take] at h1
    omega
theorem catE_one (a : FV) : catE [a] = (encA a).L := by unfold catE; simp
theorem catE_two (a b : FV) : catE [a, b] = (encA a).L ++ (encA b).L := by unfold catE; simp
theorem ba_none (x : ByteArray) (h : x = ⟨#[]⟩) : x = ⟨#[]⟩ := h
/-- What a property has is read as it was written. -/
theorem val_back {p : PV} (hp : PlainP p) (hno : ∀ a ∈ bodyP p, (encA a).no = 0) (h1 : p.s.size < 65536) (h2 : p.v.size < 65536) (ht0 : typeI p.id ≠ 0) {s : ByteArray} {pre post : List UInt8} (hs : s.data.toList = pre ++ (catE (bodyP p) ++ post)) (ea : Nat) :
    valF p.id s ⟨pre.length, 0, ea⟩ = (p, ⟨pre.length + (catE (bodyP p)).length, 0, ea⟩) := by
  obtain ⟨i, n, x, y⟩ := p
  unfold PlainP at hp
  simp only at hp h1 h2 ht0 ⊢
  obtain ⟨q1, q2, q3⟩ := hp
  have hsm : ∀ k : Nat, (k = 1 ∨ k = 2 ∨ k = 4) → typeI i = k → encA ⟨(k : Int), n, ⟨#[]⟩⟩ = numE k n → (hb : bodyP ⟨i, n, x, y⟩ = [⟨(k : Int), n, ⟨#[]⟩⟩]) → valF i s ⟨pre.length, 0, ea⟩ = (⟨i, (rNum s k ⟨pre.length, 0, ea⟩).1, ⟨#[]⟩, ⟨#[]⟩⟩, (rNum s k ⟨pre.length, 0, ea⟩).2) → valF i s ⟨pre.length, 0, ea⟩ = (⟨i, n, x, y⟩, ⟨pre.length + (catE (bodyP ⟨i, n, x, y⟩)).length, 0, ea⟩) := by
    intro k hk ht he hb hv
    have hn := hno ⟨(k : Int), n, ⟨#[]⟩⟩ (by rw [hb]; exact List.mem_singleton_self _)
    rw [he] at hn
    obtain ⟨m, rfl, hm, hL⟩ := numE_ok hn
    rw [hb, catE_one, he, hL] at hs ⊢
    obtain ⟨rfl, rfl⟩ := q1 (by omega)
    rw [hv, rNum_ok hm hs ea, be_len]
  rcases typeI_vals i with ht | ht | ht | ht | ht | ht | ht | ht
  · exact absurd ht ht0
  · exact hsm 1 (by omega) ht rfl (by unfold bodyP; simp [ht]) (val_1 s _ ht)
  · exact hsm 2 (by omega) ht rfl (by unfold bodyP; simp [ht]) (val_2 s _ ht)
  · exact hsm 4 (by omega) ht rfl (by unfold bodyP; simp [ht]) (val_4 s _ ht)
  · have hb : bodyP ⟨i, n, x, y⟩ = [⟨5, n, ⟨#[]⟩⟩] := by unfold bodyP; simp [ht]
    have hn := hno ⟨5, n, ⟨#[]⟩⟩ (by rw [hb]; exact List.mem_singleton_self _)
    rw [encA_5] at hn
    obtain ⟨m, rfl, hm, hL⟩ := varE_ok hn
    rw [hb, catE_one, encA_5, hL] at hs ⊢
    obtain ⟨rfl, rfl⟩ := q1 (by omega)
    rw [val_5 s _ ht, rVar_ok hm hs ea]
  · have hb : bodyP ⟨i, n, x, y⟩ = [⟨6, 0, x⟩] := by unfold bodyP; simp [ht]
    have hn : (textE x).no = 0 := hno ⟨6, 0, x⟩ (by rw [hb]; exact List.mem_singleton_self _)
    obtain ⟨hc, hL⟩ := textE_ok hn
    have hE : (encA ⟨6, 0, x⟩).L = be 2 x.size ++ x.data.toList := hL
    rw [hb, catE_one, hE] at hs ⊢
    obtain rfl := q2 (by omega)
    obtain rfl := q3 (.inl ht)
    rw [val_6 s _ ht, rText_ok hc hs ea, List.length_append, be_len, bLen]
  · have hb : bodyP ⟨i, n, x, y⟩ = [⟨7, 0, x⟩] := by unfold bodyP; simp [ht]
    have hE : (encA ⟨7, 0, x⟩).L = be 2 x.size ++ x.data.toList := rfl
    rw [hb, catE_one, hE] at hs ⊢
    obtain rfl := q2 (by omega)
    obtain rfl := q3 (.inr ht)
    rw [val_7 s _ ht, rBin_ok h1 hs ea, List.length_append, be_len, bLen]
  · have hb : bodyP ⟨i, n, x, y⟩ = [⟨6, 0, x⟩, ⟨6, 0, y⟩] := by unfold bodyP; simp [ht]
    have hn : (textE x).no = 0 := hno ⟨6, 0, x⟩ (by rw [hb]; exact List.mem_cons_self ..)
    have hn2 : (textE y).no = 0 := hno ⟨6, 0, y⟩ (by rw [hb]; exact List.mem_cons_of_mem _ (List.mem_singleton_self _))
    obtain ⟨hc, hL⟩ := textE_ok hn
    obtain ⟨hc2, hL2⟩ := textE_ok hn2
    have hE : (encA ⟨6, 0, x⟩).L = be 2 x.size ++ x.data.toList := hL
    have hE2 : (encA ⟨6, 0, y⟩).L = be 2 y.size ++ y.data.toList := hL2
    rw [hb, catE_two, hE, hE2] at hs ⊢
    obtain rfl := q2 (by omega)
    have r1 := rText_ok (s := s) (pre := pre) (x := x) (post := (be 2 y.size ++ y.data.toList) ++ post) hc (by rw [hs]; simp) ea
    have r2 := rText_ok (s := s) (pre := pre ++ (be 2 x.size ++ x.data.toList)) (x := y) (post := post) hc2 (by rw [hs]; simp) ea
    rw [List.length_append, List.length_append, be_len, bLen] at r2
    rw [val_9 s _ ht, r1]
    simp only
    rw [r2]
    simp only [List.length_append, be_len, bLen, Nat.add_assoc]
theorem catE_cons (a : FV) (A : List FV) : catE (a :: A) = (encA a).L ++ catE A := by unfold catE; simp
theorem next_back {place : Int} {done : PL} {base : Nat} {t : ByteArray} {p : PV} {post : List UInt8} (hok : (propErr place done p).1 = 0) (hp : PlainP p) (hno : ∀ a ∈ actsP p, (encA a).no = 0) (h1 : p.s.size < 65536) (h2 : p.v.size < 65536)
    (ht : t.data.toList = catE (actsL6 done) ++ (catE (actsP p) ++ post)) :
    nextF place done base t ⟨(catE (actsL6 done)).length, 0, 0⟩ = ⟨0, 0, 0, p, ⟨(catE (actsL6 (done ++ [p]))).length, 0, 0⟩⟩ ∧ 0 < (catE (actsP p)).length := by
  obtain ⟨k1, k2⟩ := prop_of hok
  have hn0 : (varE p.id).no = 0 := hno ⟨5, p.id, ⟨#[]⟩⟩ (List.mem_cons_self ..)
  obtain ⟨m, hm, hm2, hL⟩ := varE_ok hn0
  have hca : catE (actsP p) = vb m ++ catE (bodyP p) := by
    show catE (⟨5, p.id, ⟨#[]⟩⟩ :: bodyP p) = _
    rw [catE_cons, encA_5, hL]
  have hty : typeI p.id ≠ 0 := by
    intro h0
    unfold idErr at k1
    split at k1
    · cases k1
    · rw [if_pos (.inl h0)] at k1
      cases k1
  rw [hca] at ht ⊢
  have hr := rVar_ok (s := t) (pre := catE (actsL6 done)) (post := catE (bodyP p) ++ post) hm2 (by rw [ht]; simp) 0
  have hv := val_back hp (fun a ha => hno a (List.mem_cons_of_mem _ ha)) h1 h2 hty (s := t) (pre := catE (actsL6 done) ++ vb m) (post := post) (by rw [ht]; simp) 0
  rw [List.length_append] at hv
  refine ⟨?_, ?_⟩
  · unfold nextF
    rw [hr]
    simp only
    rw [← hm, if_pos trivial, if_pos k1, hv]
    simp only
    rw [if_pos trivial, if_pos k2, actsL6_snoc, catE_app, hca]
    simp only [List.length_append, Nat.add_assoc]
  · have := (vb_len m hm2).1
    rw [List.length_append]
    omega
theorem loop_back (place : Int) (base : Nat) (t : ByteArray) : ∀ (rest done : PL) (f : Nat), rest.length < f → OkL place (done ++ rest) → (∀ p ∈ rest, PlainP p ∧ (∀ a ∈ actsP p, (encA a).no = 0) ∧ p.s.size < 65536 ∧ p.v.size < 65536) → t.data.toList = catE (actsL6 (done ++ rest)) →
    rdLoop place base t f done ⟨(catE (actsL6 done)).length, 0, 0⟩ = ⟨0, 0, 0, done ++ rest⟩ := by
  intro rest
  induction rest with
  | nil =>
    intro done f hf hok _ ht
    obtain ⟨f, rfl⟩ : ∃ g, f = g + 1 := ⟨f - 1, by simp at hf; omega⟩
    rw [List.append_nil] at ht ⊢
    rw [rdLoop, if_pos (by rw [slen ht]; exact Nat.le_refl _)]
  | cons p rest ih =>
    intro done f hf hok hall ht
    obtain ⟨f, rfl⟩ : ∃ g, f = g + 1 := ⟨f - 1, by simp at hf; omega⟩
    have hp := hall p (List.mem_cons_self ..)
    have hpe : (propErr place done p).1 = 0 := by
      have h := hok done.length (by rw [List.length_append, List.length_cons]; omega)
      rwa [List.take_left, getD_app] at h
    have hsp : actsL6 (done ++ p :: rest) = actsL6 done ++ (actsP p ++ actsL6 rest) := by unfold actsL6; simp
    have ht2 : t.data.toList = catE (actsL6 done) ++ (catE (actsP p) ++ catE (actsL6 rest)) := by rw [ht, hsp, catE_app, catE_app]
    obtain ⟨hn, hpos⟩ := next_back (base := base) hpe hp.1 hp.2.1 hp.2.2.1 hp.2.2.2 ht2
    have hlen := slen ht2
    rw [List.length_append, List.length_append] at hlen
    rw [rdLoop, if_neg (by simp only; omega), hn, if_pos rfl]
    have e : done ++ p :: rest = (done ++ [p]) ++ rest := by simp
    rw [e] at hok ht ⊢
    exact ih (done ++ [p]) f (by simp at hf; omega) hok (fun q hq => hall q (List.mem_cons_of_mem _ hq)) ht
/-- What may be is read as it was written, whatever stands behind. -/
theorem read_back {place : Int} {L : PL} (hc : (chkL place L).1 = 0) (hw : (wrAll (actsL6 L)).no = 0) (hL : ∀ p ∈ L, PlainP p ∧ p.s.size < 65536 ∧ p.v.size < 65536) (hl : (wrAll (actsL6 L)).L.length ≤ 268435455) (s x : ByteArray) (hs : s.data.toList = (vb (wrAll (actsL6 L)).L.length ++ (wrAll (actsL6 L)).L) ++ x.data.toList) :
    readF place s ⟨0, 0, 0⟩ = (⟨0, 0, 0, L⟩, ⟨(vb (wrAll (actsL6 L)).L.length ++ (wrAll (actsL6 L)).L).length, 0, 0⟩) := by
  obtain ⟨h1, h2⟩ := wr_ok _ hw
  generalize (wrAll (actsL6 L)).L = V at *
  have hr : rVar s ⟨0, 0, 0⟩ = (V.length, ⟨(vb V.length).length, 0, 0⟩) := by
    have := rVar_ok (s := s) (pre := []) (post := V ++ x.data.toList) hl (by rw [hs]; simp) 0
    rw [List.length_nil, Nat.zero_add] at this
    exact this
  have ht : rTake s V.length ⟨(vb V.length).length, 0, 0⟩ = (⟨V.toArray⟩, ⟨(vb V.length).length + V.length, 0, 0⟩) := rTake_ok (pre := vb V.length) (post := x.data.toList) (by rw [hs]; simp) 0
  have htl : (⟨V.toArray⟩ : ByteArray).data.toList = catE (actsL6 ([] ++ L)) := by rw [List.nil_append, ← h1]
  have hlen : L.length ≤ V.length := by
    rw [h1]
    clear htl ht hr hs hl h1 hc hw
    induction L with
    | nil => exact Nat.zero_le _
    | cons p L ih =>
      have e : actsL6 (p :: L) = actsP p ++ actsL6 L := rfl
      have h3 := ih (fun q hq => hL q (List.mem_cons_of_mem _ hq)) (fun a ha => h2 a (by rw [e]; exact List.mem_append_right _ ha))
      have h4 : (varE p.id).no = 0 := h2 ⟨5, p.id, ⟨#[]⟩⟩ (by rw [e]; exact List.mem_append_left _ (List.mem_cons_self ..))
      obtain ⟨m, hm, hm2, hv⟩ := varE_ok h4
      have h5 := (vb_len m hm2).1
      rw [e, catE_app, List.length_append]
      show L.length + 1 ≤ (catE (⟨5, p.id, ⟨#[]⟩⟩ :: bodyP p)).length + _
      rw [catE_cons, encA_5, hv, List.length_append]
      omega
  have hlp := loop_back place (vb V.length).length ⟨V.toArray⟩ L [] ((⟨V.toArray⟩ : ByteArray).size + 1) (by rw [bsize]; omega) (by rw [List.nil_append]; exact okL_iff hc)
    (fun p hp => ⟨(hL p hp).1, fun a ha => h2 a (List.mem_flatMap.2 ⟨p, hp, ha⟩), (hL p hp).2⟩) htl
  unfold readF
  rw [hr]
  simp only
  rw [ht]
  simp only
  rw [if_pos trivial, List.length_append]
  have e0 : (catE (actsL6 ([] : PL))).length = 0 := rfl
  rw [e0] at hlp
  rw [hlp]
  rfl
set_option maxRecDepth 100000
open Go.RowKit Go.Extern.Stop Go.Stop Go.Extern
def aw6L : PL := [⟨2, 9, ⟨#[]⟩, ⟨#[]⟩⟩, ⟨38, 0, ⟨#[97]⟩, ⟨#[98]⟩⟩]
def aw6V : List UInt8 := [2, 0, 0, 0, 9, 38, 0, 1, 97, 0, 1, 98]
def aw6S : ByteArray := ⟨#[12, 2, 0, 0, 0, 9, 38, 0, 1, 97, 0, 1, 98]⟩
theorem aw6_c : (chkL 3 aw6L).1 = 0 := by rfl
theorem aw6_b : checkOf ⟨#[98]⟩ = (0, 0) := by rfl
theorem aw6_v2 : varE 2 = ⟨0, 0, [2]⟩ := by unfold varE; rw [if_neg (by decide)]; show EV.mk 0 0 (vb 2) = _; rw [vb_small (by decide)]; rfl
theorem aw6_v38 : varE 38 = ⟨0, 0, [38]⟩ := by unfold varE; rw [if_neg (by decide)]; show EV.mk 0 0 (vb 38) = _; rw [vb_small (by decide)]; rfl
theorem aw6_ta : textE ⟨#[97]⟩ = ⟨0, 0, [0, 1, 97]⟩ := by unfold textE; rw [aw_check, if_pos rfl]; rfl
theorem aw6_tb : textE ⟨#[98]⟩ = ⟨0, 0, [0, 1, 98]⟩ := by unfold textE; rw [aw6_b, if_pos rfl]; rfl
theorem aw6_a : actsL6 aw6L = [⟨5, 2, ⟨#[]⟩⟩, ⟨4, 9, ⟨#[]⟩⟩, ⟨5, 38, ⟨#[]⟩⟩, ⟨6, 0, ⟨#[97]⟩⟩, ⟨6, 0, ⟨#[98]⟩⟩] := by rfl
theorem aw6_w : wrAll (actsL6 aw6L) = ⟨0, 0, aw6V⟩ := by
  rw [aw6_a]
  show stepW (stepW (stepW (stepW (stepW w0 (varE 2)) (numE 4 9)) (varE 38)) (textE ⟨#[97]⟩)) (textE ⟨#[98]⟩) = _
  rw [aw6_v2, aw6_v38, aw6_ta, aw6_tb]
  rfl
theorem aw6_e : encR 3 aw6L = ⟨0, 129, 0, aw6S.data.toList⟩ := by
  unfold encR
  rw [if_pos aw6_c, aw6_w, if_pos rfl]
  show EnR.mk 0 129 0 (vb 12 ++ aw6V) = _
  rw [vb_small (by decide)]
  rfl
theorem aw6_r : readF 3 aw6S ⟨0, 0, 0⟩ = (⟨0, 0, 0, aw6L⟩, ⟨13, 0, 0⟩) := by
  have h := read_back (place := 3) (L := aw6L) aw6_c (by rw [aw6_w]) (fun p hp => by
    rcases List.mem_cons.1 hp with rfl | hp
    · exact ⟨⟨fun _ => ⟨rfl, rfl⟩, fun h => absurd h (by decide), fun _ => rfl⟩, by decide, by decide⟩
    · rw [List.mem_singleton] at hp
      subst hp
      exact ⟨⟨fun h => absurd h (by decide), fun _ => rfl, fun h => absurd h (by decide)⟩, by decide, by decide⟩) (by rw [aw6_w]; decide) aw6S ⟨#[]⟩ (by rw [aw6_w]; show _ = (vb 12 ++ aw6V) ++ _; rw [vb_small (by decide)]; rfl)
  rw [h, aw6_w]
  show (_, RV.mk (vb 12 ++ aw6V).length 0 0) = _
  rw [vb_small (by decide)]
  rfl
theorem aw6_r1 : ∃ R, readF 1 aw6S ⟨0, 0, 0⟩ = (⟨2, 129, 1, []⟩, R) := by
  have hr : rVar aw6S ⟨0, 0, 0⟩ = (12, ⟨1, 0, 0⟩) := by
    have h := rVar_ok (s := aw6S) (pre := []) (n := 12) (post := aw6V) (by decide) (by rw [vb_small (by decide)]; rfl) 0
    rw [vb_small (by decide)] at h
    exact h
  have ht : rTake aw6S 12 ⟨1, 0, 0⟩ = (⟨aw6V.toArray⟩, ⟨13, 0, 0⟩) := rTake_ok (s := aw6S) (pre := [12]) (x := aw6V) (post := []) (by rfl) 0
  have hr2 : rVar ⟨aw6V.toArray⟩ ⟨0, 0, 0⟩ = (2, ⟨1, 0, 0⟩) := by
    have h := rVar_ok (s := ⟨aw6V.toArray⟩) (pre := []) (n := 2) (post := aw6V.tail) (by decide) (by rw [vb_small (by decide)]; rfl) 0
    rw [vb_small (by decide)] at h
    exact h
  have hn : nextF 1 [] 1 ⟨aw6V.toArray⟩ ⟨0, 0, 0⟩ = ⟨2, 129, 1, p0, ⟨1, 0, 0⟩⟩ := by
    unfold nextF
    rw [hr2]
    rfl
  refine ⟨⟨13, 0, 0⟩, ?_⟩
  unfold readF
  rw [hr]
  simp only
  rw [ht]
  simp only
  rw [if_pos trivial, rdLoop, if_neg (by decide), hn]
  rfl
theorem aw6_s : SmallP aw6L := by
  refine smallP_of (by decide) (fun k hk => ?_)
  rcases k with _ | _ | k
  · exact ⟨by decide, by decide⟩
  · exact ⟨by decide, by decide⟩
  · exact absurd hk (by show ¬ k + 2 < 2; omega)
theorem aw6_g : getV aw6L 38 = (⟨38, 0, ⟨#[97]⟩, ⟨#[98]⟩⟩, true) := by rfl
theorem aw6_n : (getV aw6L 2).2 = true ∧ (getV aw6L 2).1.n = 9 := ⟨by rfl, by rfl⟩
theorem aw6_o : (woL aw6L 2).length = 1 := by rfl
/-- What awake holds: the base, the list, and the list that was read. -/
structure AwIn (w W : World) (A A2 : Option Addr) : Prop where
  bel : Below w.heap.size w W
  rd : PIn W 0 A aw6L
  rd2 : PIn W 0 A2 aw6L
section
variable {w W W' : World} {S : Nat → Addr} {A A2 : Option Addr} {g : Nat} {s : ByteArray} {R R' : RV}
theorem AwIn.below (h : AwIn w W A A2) (hb : Below W.heap.size W W') : AwIn w W' A A2 := ⟨h.bel.trans (hb.mono h.bel.size), h.rd.below hb, h.rd2.below hb⟩
theorem AwIn.step (h : AwIn w W A A2) (ho : RObj W S g s R) (hn : RNext W W' S g s R') (hg : w.heap.size ≤ g) : AwIn w W' A A2 := by
  have hX : ∀ k ∈ [g], 0 ≤ k ∧ ∀ cs, W.heap[k]? ≠ some (.cells cs 98 (0, 0)) := fun k hk => by
    rw [List.mem_singleton] at hk
    subst hk
    refine ⟨Nat.zero_le _, fun cs hc => ?_⟩
    obtain ⟨e, hb, _⟩ := ho.blk
    exact hb.other hc (by decide) rfl
  exact ⟨hn.later hg h.bel.size h.bel, h.rd.fr hn.fr hX, h.rd2.fr hn.fr hX⟩
theorem aw6_pin (w : World) : PIn (w.alloc (.cells #[.int .i64 2, .int .i64 9, .string ⟨#[]⟩, .string ⟨#[]⟩, .int .i64 38, .int .i64 0, .string ⟨#[97]⟩, .string ⟨#[98]⟩] 98)) 0 (some ⟨w.heap.size, 0, none⟩) aw6L := by
  intro _
  have hb := Blk.made w 98 #[.int .i64 2, .int .i64 9, .string ⟨#[]⟩, .string ⟨#[]⟩, .int .i64 38, .int .i64 0, .string ⟨#[97]⟩, .string ⟨#[98]⟩]
  refine ⟨_, 0, rfl, fun k hk => ?_, .inr ⟨_, hb⟩⟩
  rcases k with _ | _ | k
  · exact ⟨hb.cell 0, hb.cell 1, hb.cell 2, hb.cell 3⟩
  · exact ⟨hb.cell 4, hb.cell 5, hb.cell 6, hb.cell 7⟩
  · exact absurd hk (by show ¬ k + 2 < 2; omega)
end
end Go.Proofs.YtnolnhpmpjgnaaaGreatDoor
