/- What is proved here: plain lists: properties with nothing but what their types have are encoded as the others are; what is read may be encoded, and has nothing else; what may be is read as it was written, wherever it stands. No conditions but few bytes. What is proved here, on plain values: what PutReason writes, and TakeReason reads of it. No conditions but few bytes. -/
import Derived.Test.YtfkimpcaokgldaaGreatDoorAwk06
import Derived.Test.YtfkimpcaokgldaaGreatDoorRsa05
namespace Go.Proofs.YtfkimpcaokgldaaGreatDoor
set_option maxRecDepth 100000
open Go.RowKit Go.Extern.Stop Go.Stop Go.Extern
/-- A property with nothing but what its type has. -/
def plV (p : PV) : PV := if typeI p.id = 9 then ⟨p.id, 0, p.s, p.v⟩ else if typeI p.id = 6 ∨ typeI p.id = 7 then ⟨p.id, 0, p.s, ⟨#[]⟩⟩ else ⟨p.id, p.n, ⟨#[]⟩, ⟨#[]⟩⟩
def plL (L : PL) : PL := L.map plV
theorem plV_id (p : PV) : (plV p).id = p.id := by unfold plV; (repeat' split) <;> rfl
theorem plV_9 {p : PV} (h : typeI p.id = 9) : plV p = ⟨p.id, 0, p.s, p.v⟩ := by unfold plV; rw [if_pos h]
theorem plV_6 {p : PV} (h : typeI p.id = 6 ∨ typeI p.id = 7) : plV p = ⟨p.id, 0, p.s, ⟨#[]⟩⟩ := by unfold plV; rw [if_neg (by omega), if_pos h]
theorem plV_n {p : PV} (h : typeI p.id < 6) : plV p = ⟨p.id, p.n, ⟨#[]⟩, ⟨#[]⟩⟩ := by unfold plV; rw [if_neg (by omega), if_neg (by omega)]
theorem plain_cases (i : Int) : typeI i < 6 ∨ (typeI i = 6 ∨ typeI i = 7) ∨ typeI i = 9 := by
  rcases typeI_vals i with h | h | h | h | h | h | h | h <;> omega
theorem plV_plain (p : PV) : PlainP (plV p) := by
  unfold PlainP
  rw [plV_id]
  rcases plain_cases p.id with h | h | h
  · rw [plV_n h]
    exact ⟨fun _ => ⟨rfl, rfl⟩, fun h2 => absurd h2 (by omega), fun _ => rfl⟩
  · rw [plV_6 h]
    exact ⟨fun h2 => absurd h2 (by omega), fun _ => rfl, fun _ => rfl⟩
  · rw [plV_9 h]
    exact ⟨fun h2 => absurd h2 (by omega), fun _ => rfl, fun h2 => absurd h2 (by omega)⟩
theorem plV_same {p : PV} (hp : PlainP p) : plV p = p := by
  obtain ⟨i, n, s, v⟩ := p
  unfold PlainP at hp
  simp only at hp
  obtain ⟨h1, h2, h3⟩ := hp
  rcases plain_cases i with h | h | h
  · rw [plV_n (p := ⟨i, n, s, v⟩) h]
    obtain ⟨rfl, rfl⟩ := h1 h
    rfl
  · rw [plV_6 (p := ⟨i, n, s, v⟩) h]
    obtain rfl := h2 (by omega)
    obtain rfl := h3 h
    rfl
  · rw [plV_9 (p := ⟨i, n, s, v⟩) h]
    obtain rfl := h2 (by omega)
    rfl
theorem plL_same {L : PL} (h : ∀ p ∈ L, PlainP p) : plL L = L := by
  induction L with
  | nil => rfl
  | cons p L ih =>
    show plV p :: plL L = p :: L
    rw [plV_same (h p (List.mem_cons_self ..)), ih fun q hq => h q (List.mem_cons_of_mem _ hq)]
theorem plL_len (L : PL) : (plL L).length = L.length := List.length_map ..
theorem actsP_plV (p : PV) : actsP (plV p) = actsP p := by
  unfold actsP
  rw [plV_id]
  congr 1
  unfold bodyP
  rw [plV_id]
  rcases plain_cases p.id with h | h | h
  · rw [plV_n h]
    simp [show ¬ typeI p.id = 6 by omega, show ¬ typeI p.id = 7 by omega, show ¬ typeI p.id = 9 by omega]
  · rw [plV_6 h]
    rcases h with h | h <;> rw [h] <;> rfl
  · rw [plV_9 h, h]
    rfl
theorem actsL6_plL (L : PL) : actsL6 (plL L) = actsL6 L := by
  induction L with
  | nil => rfl
  | cons p L ih =>
    show actsP (plV p) ++ actsL6 (plL L) = actsP p ++ actsL6 L
    rw [actsP_plV, ih]
theorem numI_ty (i n : Int) (h : 5 < typeI i) : numI i n = true := by
  unfold numI
  by_cases h1 : i ∈ [1, 23, 25, 36, 37, 40, 41, (42 : Int)]
  · exfalso
    simp only [List.mem_cons, List.not_mem_nil, or_false] at h1
    rcases h1 with rfl | rfl | rfl | rfl | rfl | rfl | rfl | rfl <;> exact absurd h (by decide)
  · rw [if_neg h1]
    by_cases h2 : i ∈ [11, 33, 35, (39 : Int)]
    · exfalso
      simp only [List.mem_cons, List.not_mem_nil, or_false] at h2
      rcases h2 with rfl | rfl | rfl | rfl <;> exact absurd h (by decide)
    · rw [if_neg h2]
theorem numI_plV {p : PV} (h : numI p.id p.n = true) : numI (plV p).id (plV p).n = true := by
  rw [plV_id]
  rcases plain_cases p.id with h2 | h2 | h2
  · rw [plV_n h2]; exact h
  · exact numI_ty _ _ (by omega)
  · exact numI_ty _ _ (by omega)
theorem getV_plL (L : PL) (i : Int) : (getV (plL L) i).2 = (getV L i).2 := by
  induction L with
  | nil => rfl
  | cons p L ih =>
    show (if (plV p).id = i then (plV p, true) else getV (plL L) i).2 = (if p.id = i then (p, true) else getV L i).2
    rw [plV_id]
    split
    · rfl
    · exact ih
theorem idErr_plL (place : Int) (L : PL) (i : Int) : idErr place (plL L) i = idErr place L i := by
  unfold idErr
  rw [plL_len, getV_plL]
theorem chk_plL {place : Int} {L : PL} (h : (chkL place L).1 = 0) : (chkL place (plL L)).1 = 0 := by
  have hok : OkL place (plL L) := by
    intro k hk
    rw [plL_len] at hk
    have h1 := okL_iff h k hk
    obtain ⟨h2, h3⟩ := prop_of h1
    have e1 : (plL L).take k = plL (L.take k) := by unfold plL; rw [List.map_take]
    have e2 : (plL L).getD k p0 = plV (L.getD k p0) := by
      unfold plL
      rw [List.getD_eq_getElem?_getD, List.getD_eq_getElem?_getD, List.getElem?_map, List.getElem?_eq_getElem hk]
      rfl
    rw [e1, e2]
    exact prop_ok (by rw [plV_id, idErr_plL]; exact h2) (numI_plV h3)
  have h := okL_chk hok (plL L).length 0 (by omega)
  exact congrArg Prod.fst h
/-- What may be is read as it was written, whatever stands ahead and behind. -/
theorem read_at {place : Int} {L : PL} (hc : (chkL place L).1 = 0) (hw : (wrAll (actsL6 L)).no = 0) (hL : ∀ p ∈ L, PlainP p ∧ p.s.size < 65536 ∧ p.v.size < 65536) (hl : (wrAll (actsL6 L)).L.length ≤ 268435455) (s : ByteArray) (pre x : List UInt8) (ea : Nat) (hs : s.data.toList = pre ++ ((vb (wrAll (actsL6 L)).L.length ++ (wrAll (actsL6 L)).L) ++ x)) :
    readF place s ⟨pre.length, 0, ea⟩ = (⟨0, 0, 0, L⟩, ⟨pre.length + (vb (wrAll (actsL6 L)).L.length ++ (wrAll (actsL6 L)).L).length, 0, ea⟩) := by
  obtain ⟨h1, h2⟩ := wr_ok _ hw
  generalize (wrAll (actsL6 L)).L = V at *
  have hr : rVar s ⟨pre.length, 0, ea⟩ = (V.length, ⟨pre.length + (vb V.length).length, 0, ea⟩) :=
    rVar_ok (s := s) (pre := pre) (post := V ++ x) hl (by rw [hs]; simp) ea
  have ht : rTake s V.length ⟨pre.length + (vb V.length).length, 0, ea⟩ = (⟨V.toArray⟩, ⟨pre.length + (vb V.length).length + V.length, 0, ea⟩) := by
    have h := rTake_ok (s := s) (pre := pre ++ vb V.length) (x := V) (post := x) (by rw [hs]; simp) ea
    rw [List.length_append] at h
    exact h
  have htl : (⟨V.toArray⟩ : ByteArray).data.toList = catE (actsL6 ([] ++ L)) := by rw [List.nil_append, ← h1]
  have hlen : L.length ≤ V.length := by
    rw [h1]
    clear htl ht hr hs hl h1 hc hw
    induction L with
    | nil => exact Nat.zero_le _
    | cons p L ih =>
      have e : actsL6 (p :: L) = actsP p ++ actsL6 L := rfl
      have h3 := ih (fun q hq => hL q (List.mem_cons_of_mem _ hq)) (fun a ha => h2 a (by rw [e]; exact List.mem_append_right _ ha))
      have h4 : (varE p.id).no = 0 := h2 ⟨5, p.id, ⟨#[]⟩⟩ (by rw [e]; exact List.mem_append_left _ (List.mem_cons_self ..))
      obtain ⟨m, hm, hm2, hv⟩ := varE_ok h4
      have h5 := (vb_len m hm2).1
      rw [e, catE_app, List.length_append]
      show L.length + 1 ≤ (catE (⟨5, p.id, ⟨#[]⟩⟩ :: bodyP p)).length + _
      rw [catE_cons, encA_5, hv, List.length_append]
      omega
  have hlp := loop_back place (pre.length + (vb V.length).length) ⟨V.toArray⟩ L [] ((⟨V.toArray⟩ : ByteArray).size + 1) (by rw [bsize]; omega) (by rw [List.nil_append]; exact okL_iff hc)
    (fun p hp => ⟨(hL p hp).1, fun a ha => h2 a (List.mem_flatMap.2 ⟨p, hp, ha⟩), (hL p hp).2⟩) htl
  unfold readF
  rw [hr]
  simp only
  rw [ht]
  simp only
  rw [if_pos trivial, List.length_append]
  have e0 : (catE (actsL6 ([] : PL))).length = 0 := rfl
  rw [e0] at hlp
  rw [hlp, Nat.add_assoc]
  rfl
/-- A number that is read, of so many bytes. -/
theorem vt_is (s : ByteArray) (f : Nat) : ∀ i n b : Nat, (vt s f i n b).2.2.1 = 0 → ∃ m, (vt s f i n b).1 = n + m * b ∧ (vt s f i n b).2.1 = i + (vb m).length ∧ m < 128 ^ f ∧ (0 < i → 1 ≤ m) := by
  induction f with
  | zero => exact fun _ _ _ h => absurd h (fun e => by cases e)
  | succ f ih =>
    intro i n b h
    by_cases hlt : i < s.size
    · by_cases h1 : s[i].toNat < 128
      · by_cases h0 : s[i].toNat = 0 ∧ 0 < i
        · rw [vt_zero hlt h0.1 h0.2] at h
          exact absurd h (fun e => by cases e)
        · rw [vt_last hlt h1 h0]
          refine ⟨s[i].toNat, by rw [Nat.mod_eq_of_lt h1], by rw [vb_small h1]; rfl, ?_, fun hi => by omega⟩
          rw [Nat.pow_succ]
          have : 0 < 128 ^ f := Nat.pow_pos (by omega)
          omega
      · rw [vt_more hlt h1] at h ⊢
        obtain ⟨m, e1, e2, e3, e4⟩ := ih _ _ _ h
        have hm := e4 (by omega)
        refine ⟨s[i].toNat % 128 + m * 128, ?_, ?_, ?_, fun _ => by omega⟩
        · rw [e1, Nat.add_mul, Nat.mul_assoc, Nat.mul_comm 128 b]
          omega
        · have hd : (s[i].toNat % 128 + m * 128) / 128 = m := by omega
          rw [e2, vb_big (n := s[i].toNat % 128 + m * 128) (by omega), hd, List.length_cons]
          omega
        · rw [Nat.pow_succ]
          omega
    · rw [vt_short hlt] at h
      exact absurd h (fun e => by cases e)
theorem vt_le (s : ByteArray) (f : Nat) : ∀ i n b : Nat, (vt s f i n b).2.2.1 = 0 → (vt s f i n b).2.1 ≤ s.size := by
  induction f with
  | zero => exact fun _ _ _ h => absurd h (fun e => by cases e)
  | succ f ih =>
    intro i n b h
    by_cases hlt : i < s.size
    · by_cases h1 : s[i].toNat < 128
      · by_cases h0 : s[i].toNat = 0 ∧ 0 < i
        · rw [vt_zero hlt h0.1 h0.2] at h
          exact absurd h (fun e => by cases e)
        · rw [vt_last hlt h1 h0]
          exact hlt
      · rw [vt_more hlt h1] at h ⊢
        exact ih _ _ _ h
    · rw [vt_short hlt] at h
      exact absurd h (fun e => by cases e)
section
variable {s : ByteArray} {R : RV}
theorem rVar_le (hp : R.p ≤ s.size) : (rVar s R).2.p ≤ s.size := by
  unfold rVar
  split
  · unfold rVarOf
    split
    · rename_i hv
      have h := vt_le _ 4 0 0 1 hv
      rw [ByteArray.size_extract] at h
      show R.p + _ ≤ _
      omega
    · exact hp
  · exact hp
theorem rBin_le (hp : R.p ≤ s.size) : (rBin s R).2.p ≤ s.size := by
  unfold rBin
  simp only
  split
  · exact (rTake_le (rTake_le hp).1).1
  · exact hp
theorem rText_le (hp : R.p ≤ s.size) : (rText s R).2.p ≤ s.size := by
  unfold rText
  split
  · exact rBin_le hp
  · exact hp
theorem val_le (i : Int) (hp : R.p ≤ s.size) : (valF i s R).2.p ≤ s.size := by
  rcases typeI_vals i with ht | ht | ht | ht | ht | ht | ht | ht
  · rw [show (valF i s R).2 = R from snd_of (val_0 s R ht)]; exact hp
  · rw [show (valF i s R).2 = (rNum s 1 R).2 from snd_of (val_1 s R ht)]; exact (rTake_le hp).1
  · rw [show (valF i s R).2 = (rNum s 2 R).2 from snd_of (val_2 s R ht)]; exact (rTake_le hp).1
  · rw [show (valF i s R).2 = (rNum s 4 R).2 from snd_of (val_4 s R ht)]; exact (rTake_le hp).1
  · rw [show (valF i s R).2 = (rVar s R).2 from snd_of (val_5 s R ht)]; exact rVar_le hp
  · rw [show (valF i s R).2 = (rText s R).2 from snd_of (val_6 s R ht)]; exact rText_le hp
  · rw [show (valF i s R).2 = (rBin s R).2 from snd_of (val_7 s R ht)]; exact rBin_le hp
  · rw [show (valF i s R).2 = (rText s (rText s R).2).2 from snd_of (val_9 s R ht)]; exact rText_le (rText_le hp)
theorem next_le {place : Int} {L : PL} {base : Nat} (hp : R.p ≤ s.size) : (nextF place L base s R).R2.p ≤ s.size := by
  unfold nextF
  (repeat' split) <;> first | exact val_le _ (rVar_le hp) | exact rVar_le hp
end
section
variable {s : ByteArray} {R : RV}
theorem rVar_is (h0 : R.no = 0) (h : (rVar s R).2.no = 0) : (rVar s R).1 ≤ 268435455 ∧ (rVar s R).2.p = R.p + (vb (rVar s R).1).length := by
  unfold rVar at h ⊢
  rw [if_pos h0] at h ⊢
  unfold rVarOf at h ⊢
  split at h
  · rename_i hv
    rw [if_pos hv]
    obtain ⟨m, e1, e2, e3, _⟩ := vt_is _ 4 0 0 1 hv
    simp only
    rw [e1, e2, Nat.mul_one, Nat.zero_add, Nat.zero_add]
    exact ⟨by omega, rfl⟩
  · rename_i hv
    exact absurd h hv
theorem rTake_is {n : Nat} (h0 : R.no = 0) (h : (rTake s n R).2.no = 0) : (rTake s n R).1.size = n ∧ (rTake s n R).2.p = R.p + n ∧ R.p + n ≤ s.size := by
  unfold rTake at h ⊢
  rw [if_pos h0] at h ⊢
  split at h
  · cases h
  · rename_i hv
    rw [if_neg hv]
    refine ⟨?_, rfl, by omega⟩
    rw [ByteArray.size_extract]
    omega
theorem rNum_is {n : Nat} (h0 : R.no = 0) (h : (rNum s n R).2.no = 0) : (rNum s n R).1 < 256 ^ n ∧ (rNum s n R).2.p = R.p + n := by
  obtain ⟨h1, h2, _⟩ := rTake_is (n := n) h0 h
  refine ⟨?_, h2⟩
  have h3 := bv_lt (rTake s n R).1.data.toList
  rw [bLen, h1] at h3
  exact h3
theorem rBin_is (h0 : R.no = 0) (h : (rBin s R).2.no = 0) : (rBin s R).1.size < 65536 ∧ (rBin s R).2.p = R.p + 2 + (rBin s R).1.size := by
  unfold rBin at h ⊢
  simp only at h ⊢
  by_cases h2 : (rTake s (rNum s 2 R).1 (rNum s 2 R).2).2.no = 0
  · rw [if_pos h2] at h ⊢
    have h1 : (rNum s 2 R).2.no = 0 := by
      by_cases h1 : (rNum s 2 R).2.no = 0
      · exact h1
      · rw [rTake_stuck h1] at h2
        exact h2
    obtain ⟨k1, k2⟩ := rNum_is h0 h1
    obtain ⟨k3, k4, _⟩ := rTake_is h1 h2
    rw [k3, k4, k2]
    exact ⟨k1, rfl⟩
  · rw [if_neg h2] at h
    exact absurd h h2
theorem rText_is (h0 : R.no = 0) (h : (rText s R).2.no = 0) : (checkOf (rText s R).1).1 = 0 ∧ (rText s R).1.size < 65536 ∧ (rText s R).2.p = R.p + 2 + (rText s R).1.size := by
  unfold rText at h ⊢
  split at h
  · rename_i hc
    rw [if_pos hc]
    exact ⟨hc, rBin_is h0 h⟩
  · rename_i hc
    exact absurd h hc
theorem rText_no (h : (rText s R).2.no = 0) : R.no = 0 := by
  by_cases h0 : R.no = 0
  · exact h0
  · rw [rText_stuck h0] at h
    exact absurd h h0
/-- What a property that is read has: it may be encoded, and took so many bytes. -/
theorem val_is (i : Int) (h0 : R.no = 0) (h : (valF i s R).2.no = 0) : PlainP (valF i s R).1 ∧ (∀ a ∈ bodyP (valF i s R).1, (encA a).no = 0) ∧ (valF i s R).1.s.size < 65536 ∧ (valF i s R).1.v.size < 65536 ∧ (catE (bodyP (valF i s R).1)).length + R.p = (valF i s R).2.p := by
  have hz : (⟨#[]⟩ : ByteArray).size = 0 := rfl
  have hnum : ∀ k : Nat, (k = 1 ∨ k = 2 ∨ k = 4) → typeI i = k → valF i s R = (⟨i, (rNum s k R).1, ⟨#[]⟩, ⟨#[]⟩⟩, (rNum s k R).2) → PlainP (valF i s R).1 ∧ (∀ a ∈ bodyP (valF i s R).1, (encA a).no = 0) ∧ (valF i s R).1.s.size < 65536 ∧ (valF i s R).1.v.size < 65536 ∧ (catE (bodyP (valF i s R).1)).length + R.p = (valF i s R).2.p := by
    intro k hk ht hv
    rw [hv] at h ⊢
    simp only at h ⊢
    obtain ⟨k1, k2⟩ := rNum_is h0 h
    generalize (rNum s k R).1 = m at *
    have hb : bodyP ⟨i, (m : Int), ⟨#[]⟩, ⟨#[]⟩⟩ = [⟨(k : Int), m, ⟨#[]⟩⟩] := by
      unfold bodyP
      simp only
      rw [ht, if_neg (by omega), if_neg (by omega), if_neg (by omega), if_neg (by omega)]
    have he : encA ⟨(k : Int), m, ⟨#[]⟩⟩ = ⟨0, 0, be k m⟩ := by
      have h1 : encA ⟨(k : Int), m, ⟨#[]⟩⟩ = numE k m := by rcases hk with rfl | rfl | rfl <;> rfl
      rw [h1]
      unfold numE
      rw [if_neg (by omega), Int.toNat_natCast]
    rw [hb]
    refine ⟨⟨fun _ => ⟨rfl, rfl⟩, fun h => absurd h (by simp only; omega), fun _ => rfl⟩, fun a ha => ?_, by omega, by omega, ?_⟩
    · rw [List.mem_singleton] at ha
      subst ha
      rw [he]
    · rw [catE_one, he, be_len, k2]
      omega
  rcases typeI_vals i with ht | ht | ht | ht | ht | ht | ht | ht
  · rw [val_0 s R ht]
    have hb : bodyP ⟨i, 0, ⟨#[]⟩, ⟨#[]⟩⟩ = [] := by unfold bodyP; simp [ht]
    simp only
    rw [hb]
    exact ⟨⟨fun _ => ⟨rfl, rfl⟩, fun _ => rfl, fun _ => rfl⟩, (fun a ha => by cases ha), by omega, by omega, by show 0 + R.p = R.p; omega⟩
  · exact hnum 1 (by omega) ht (val_1 s R ht)
  · exact hnum 2 (by omega) ht (val_2 s R ht)
  · exact hnum 4 (by omega) ht (val_4 s R ht)
  · have hv := val_5 s R ht
    rw [hv] at h ⊢
    simp only at h ⊢
    obtain ⟨k1, k2⟩ := rVar_is h0 h
    generalize (rVar s R).1 = m at *
    have hb : bodyP ⟨i, (m : Int), ⟨#[]⟩, ⟨#[]⟩⟩ = [⟨5, m, ⟨#[]⟩⟩] := by unfold bodyP; simp [ht]
    have he : encA ⟨5, m, ⟨#[]⟩⟩ = ⟨0, 0, vb m⟩ := by
      rw [encA_5]
      unfold varE
      rw [if_neg (by omega), Int.toNat_natCast]
    rw [hb]
    refine ⟨⟨fun _ => ⟨rfl, rfl⟩, fun h => absurd h (by simp only; omega), fun _ => rfl⟩, fun a ha => ?_, by omega, by omega, ?_⟩
    · rw [List.mem_singleton] at ha
      subst ha
      rw [he]
    · rw [catE_one, he, k2]
      show (vb m).length + R.p = _
      omega
  · have hv := val_6 s R ht
    rw [hv] at h ⊢
    simp only at h ⊢
    obtain ⟨k1, k2, k3⟩ := rText_is h0 h
    generalize (rText s R).1 = t at *
    have hb : bodyP ⟨i, 0, t, ⟨#[]⟩⟩ = [⟨6, 0, t⟩] := by unfold bodyP; simp [ht]
    have he : encA ⟨6, 0, t⟩ = ⟨0, 0, be 2 t.size ++ t.data.toList⟩ := by
      show textE t = _
      unfold textE binE
      rw [if_pos k1]
    rw [hb]
    refine ⟨⟨fun h => absurd h (by simp only; omega), fun _ => rfl, fun _ => rfl⟩, fun a ha => ?_, k2, by omega, ?_⟩
    · rw [List.mem_singleton] at ha
      subst ha
      rw [he]
    · rw [catE_one, he, k3]
      simp only
      rw [List.length_append, be_len, bLen]
      omega
  · have hv := val_7 s R ht
    rw [hv] at h ⊢
    simp only at h ⊢
    obtain ⟨k2, k3⟩ := rBin_is h0 h
    generalize (rBin s R).1 = t at *
    have hb : bodyP ⟨i, 0, t, ⟨#[]⟩⟩ = [⟨7, 0, t⟩] := by unfold bodyP; simp [ht]
    have he : encA ⟨7, 0, t⟩ = ⟨0, 0, be 2 t.size ++ t.data.toList⟩ := rfl
    rw [hb]
    refine ⟨⟨fun h => absurd h (by simp only; omega), fun _ => rfl, fun _ => rfl⟩, fun a ha => ?_, k2, by omega, ?_⟩
    · rw [List.mem_singleton] at ha
      subst ha
      rw [he]
    · rw [catE_one, he, k3]
      simp only
      rw [List.length_append, be_len, bLen]
      omega
  · have hv := val_9 s R ht
    rw [hv] at h ⊢
    simp only at h ⊢
    have h1 := rText_no h
    obtain ⟨k1, k2, k3⟩ := rText_is h0 h1
    obtain ⟨j1, j2, j3⟩ := rText_is h1 h
    generalize (rText s (rText s R).2).1 = t2 at *
    generalize (rText s (rText s R).2).2 = R2 at *
    generalize (rText s R).1 = t at *
    generalize (rText s R).2 = R1 at *
    have hb : bodyP ⟨i, 0, t, t2⟩ = [⟨6, 0, t⟩, ⟨6, 0, t2⟩] := by unfold bodyP; simp [ht]
    have he : ∀ t : ByteArray, (checkOf t).1 = 0 → encA ⟨6, 0, t⟩ = ⟨0, 0, be 2 t.size ++ t.data.toList⟩ := fun t k1 => by
      show textE t = _
      unfold textE binE
      rw [if_pos k1]
    rw [hb]
    refine ⟨⟨fun h => absurd h (by simp only; omega), fun _ => rfl, fun h => absurd h (by simp only; omega)⟩, fun a ha => ?_, k2, j2, ?_⟩
    · rcases List.mem_cons.1 ha with rfl | ha
      · rw [he t k1]
      · rw [List.mem_singleton] at ha
        subst ha
        rw [he t2 j1]
    · rw [catE_two, he t k1, he t2 j1, j3, k3]
      simp only
      rw [List.length_append, List.length_append, List.length_append, be_len, bLen, be_len, bLen]
      omega
/-- What is read may be encoded. -/
def EncP (p : PV) : Prop := PlainP p ∧ (∀ a ∈ actsP p, (encA a).no = 0) ∧ p.s.size < 65536 ∧ p.v.size < 65536
theorem next_is {place : Int} {L : PL} {base : Nat} (h0 : R.no = 0) (h : (nextF place L base s R).no = 0) : EncP (nextF place L base s R).p ∧ (catE (actsP (nextF place L base s R).p)).length + R.p = (nextF place L base s R).R2.p ∧ (nextF place L base s R).R2.no = 0 := by
  unfold nextF at h ⊢
  split at h
  · rename_i h1
    rw [if_pos h1]
    split at h
    · rename_i h2
      rw [if_pos h2]
      split at h
      · rename_i h3
        rw [if_pos h3]
        split at h
        · rename_i h4
          rw [if_pos h4]
          simp only
          obtain ⟨k1, k2⟩ := rVar_is h0 h1
          obtain ⟨j1, j2, j3, j4, j5⟩ := val_is (rVar s R).1 h1 h3
          have hid := val_id ((rVar s R).1 : Int) s (rVar s R).2
          generalize valF (rVar s R).1 s (rVar s R).2 = q at *
          obtain ⟨p, R2⟩ := q
          simp only at *
          have he : encA ⟨5, p.id, ⟨#[]⟩⟩ = ⟨0, 0, vb (rVar s R).1⟩ := by
            rw [encA_5, hid]
            unfold varE
            rw [if_neg (by omega), Int.toNat_natCast]
          refine ⟨⟨j1, fun a ha => ?_, j3, j4⟩, ?_, h3⟩
          · rcases List.mem_cons.1 ha with rfl | ha
            · rw [he]
            · exact j2 a ha
          · show (catE (⟨5, p.id, ⟨#[]⟩⟩ :: bodyP p)).length + _ = _
            rw [catE_cons, he, List.length_append]
            simp only
            omega
        · cases h
      · rename_i h3; exact absurd h h3
    · rename_i h2; exact absurd h h2
  · rename_i h1; exact absurd h h1
theorem loop_is (place : Int) (base : Nat) (t : ByteArray) : ∀ f L (R : RV), R.no = 0 → (∀ p ∈ L, EncP p) → (catE (actsL6 L)).length = R.p → R.p ≤ t.size → (rdLoop place base t f L R).no = 0 →
    (∀ p ∈ (rdLoop place base t f L R).L, EncP p) ∧ (catE (actsL6 (rdLoop place base t f L R).L)).length ≤ t.size := by
  intro f
  induction f with
  | zero => intro L R _ h1 h2 h3 _; exact ⟨h1, by show (catE (actsL6 L)).length ≤ _; omega⟩
  | succ f ih =>
    intro L R h0 h1 h2 h3 h
    rw [rdLoop] at h ⊢
    split at h
    · rename_i hc
      rw [if_pos hc]
      exact ⟨h1, by show (catE (actsL6 L)).length ≤ _; omega⟩
    · rename_i hc
      rw [if_neg hc]
      split at h
      · rename_i hn
        rw [if_pos hn]
        obtain ⟨k1, k2, k3⟩ := next_is h0 hn
        have k4 : (nextF place L base t R).R2.p ≤ t.size := next_le h3
        refine ih _ _ k3 (fun p hp => ?_) ?_ k4 h
        · rcases List.mem_append.1 hp with hp | hp
          · exact h1 p hp
          · rw [List.mem_singleton] at hp
            subst hp
            exact k1
        · rw [actsL6_snoc, catE_app, List.length_append]
          omega
      · rename_i hn
        exact absurd h hn
/-- What is read may be, may be encoded, and takes no more bytes than there were. -/
theorem read_is (place : Int) (s : ByteArray) (R : RV) (h : (readF place s R).1.no = 0) :
    (∀ p ∈ (readF place s R).1.L, EncP p) ∧ (catE (actsL6 (readF place s R).1.L)).length ≤ s.size ∧ (chkL place (readF place s R).1.L).1 = 0 ∧ (readF place s R).1.L.length ≤ 64 := by
  obtain ⟨m1, _, m3⟩ := read_may place s R
  refine ⟨?_, ?_, m1, m3⟩
  all_goals
    unfold readF at h ⊢
    split at h
    · rename_i hv
      rw [if_pos hv]
      obtain ⟨k1, k2⟩ := loop_is place _ _ _ [] ⟨0, 0, 0⟩ rfl (fun p hp => by cases hp) rfl (Nat.zero_le _) h
      first
      | exact k1
      | (refine Nat.le_trans k2 ?_
         have hv0 : (rVar s R).2.no = 0 := by
           by_cases h1 : (rVar s R).2.no = 0
           · exact h1
           · rw [rTake_stuck h1] at hv
             exact hv
         obtain ⟨e1, e2, e3⟩ := rTake_is hv0 hv
         rw [e1]
         omega)
    · rename_i hv
      exact absurd h hv
theorem wr_all_ok (A : List FV) (h : ∀ a ∈ A, (encA a).no = 0) : (wrAll A).no = 0 ∧ (wrAll A).L = catE A := by
  induction A using snoc_ind with
  | nil => exact ⟨rfl, rfl⟩
  | snoc A a ih =>
    obtain ⟨h1, h2⟩ := ih fun b hb => h b (List.mem_append_left _ hb)
    have h3 := h a (List.mem_append_right _ (List.mem_singleton_self _))
    rw [wrAll_snoc, stepW_ok h1 h3, h2, catE_snoc]
    exact ⟨rfl, rfl⟩
theorem enc_all {L : PL} (h : ∀ p ∈ L, EncP p) : (wrAll (actsL6 L)).no = 0 ∧ (wrAll (actsL6 L)).L = catE (actsL6 L) :=
  wr_all_ok _ fun a ha => by
    obtain ⟨p, hp, ha⟩ := List.mem_flatMap.1 ha
    exact (h p hp).2.1 a ha
end
end Go.Proofs.YtfkimpcaokgldaaGreatDoor
namespace Go.Proofs.YtfkimpcaokgldaaGreatDoor
set_option maxRecDepth 100000
open Go.RowKit Go.Extern.Stop Go.Stop Go.Extern
/-- An error: its number, its reason, and where it is. -/
structure Er where
  no : Nat
  r : Int
  at_ : Nat
/-- What TakeReason tells. -/
structure TR where
  e : Er
  code : Nat
  L : PL
def e00 : Er := ⟨0, 0, 0⟩
def tkR (k : Int) (s : ByteArray) (R : RV) : TR :=
  if s.size ≤ R.p then ⟨e00, 0, []⟩
  else if allowedB k (rNum s 1 R).1 = false then ⟨⟨2, 129, R.p⟩, 0, []⟩
  else if s.size ≤ R.p + 1 then ⟨e00, (rNum s 1 R).1, []⟩
  else if (readF k s (rNum s 1 R).2).1.no = 0 then
    if (readF k s (rNum s 1 R).2).2.p < s.size then ⟨⟨2, 129, (readF k s (rNum s 1 R).2).2.p⟩, 0, []⟩ else ⟨e00, (rNum s 1 R).1, (readF k s (rNum s 1 R).2).1.L⟩
  else ⟨⟨(readF k s (rNum s 1 R).2).1.no, (readF k s (rNum s 1 R).2).1.r, (readF k s (rNum s 1 R).2).1.at_⟩, 0, []⟩
/-- What PutReason tells, and leaves. -/
def putR (W : EV) (k reason : Int) (L : PL) : Er × EV :=
  if L = [] then (e00, if reason = 0 then W else stepW W (numE 1 reason))
  else if (encR k L).no = 0 then (e00, stepW (stepW W (numE 1 reason)) ⟨0, 0, (encR k L).L⟩) else (⟨(encR k L).no, (encR k L).r, (encR k L).at_⟩, W)
theorem readF_no {k : Int} {s : ByteArray} {R : RV} (h : (readF k s R).1.no = 0) : (readF k s R).2.no = 0 := by
  unfold readF at h ⊢
  split
  · rename_i h1; exact h1
  · rename_i h1; rw [if_neg h1] at h; exact h
theorem rNum_left {s : ByteArray} {R : RV} (h0 : R.no = 0) (hp : R.p < s.size) : (rNum s 1 R).2 = ⟨R.p + 1, 0, R.ea⟩ := by
  unfold rNum rTake
  simp only
  rw [if_pos h0, if_neg (by omega)]
theorem encR_ok {place : Int} {L : PL} (h : (encR place L).no = 0) : (chkL place L).1 = 0 ∧ (wrAll (actsL6 L)).no = 0 ∧ (encR place L).L = vb (wrAll (actsL6 L)).L.length ++ (wrAll (actsL6 L)).L := by
  unfold encR at h ⊢
  split at h
  · rename_i h1
    rw [if_pos h1]
    split at h
    · rename_i h2
      rw [if_pos h2]
      exact ⟨h1, h2, rfl⟩
    · rename_i h2; exact absurd h h2
  · rename_i h1; exact absurd h h1
theorem encR_of {place : Int} {L : PL} (h1 : (chkL place L).1 = 0) (h2 : (wrAll (actsL6 L)).no = 0) : (encR place L).no = 0 := by
  unfold encR
  rw [if_pos h1, if_pos h2]
theorem stepW_no {W e : EV} (h : (stepW W e).no = 0) : W.no = 0 ∧ e.no = 0 ∧ stepW W e = ⟨0, W.at_, W.L ++ e.L⟩ := by
  by_cases h0 : W.no = 0
  · by_cases he : e.no = 0
    · exact ⟨h0, he, stepW_ok h0 he⟩
    · rw [stepW_bad h0 he] at h; exact absurd h he
  · rw [stepW_stuck h0] at h; exact absurd h h0
/-- What PutReason wrote is read as it was, with nothing but what the types of the properties have, if the reason may be. -/
theorem put_take {W V : EV} {k reason : Int} {L : PL} {e : Er} (hp : putR W k reason L = (e, V)) (he : e.no = 0) (hV : V.no = 0) (_hW : W.no = 0) (hsz : ∀ p ∈ L, p.s.size < 65536 ∧ p.v.size < 65536) (hl : (wrAll (actsL6 L)).L.length ≤ 268435455) (ha : reason ≠ 0 ∨ L ≠ [] → allowedB k reason = true) (s : ByteArray) (hs : s.data.toList = V.L) (ea : Nat) :
    ∃ m : Nat, reason = m ∧ tkR k s ⟨W.L.length, 0, ea⟩ = ⟨e00, m, plL L⟩ := by
  have hss := slen hs
  unfold putR at hp
  by_cases h0 : L = []
  · subst h0
    rw [if_pos rfl] at hp
    obtain ⟨rfl, rfl⟩ := Prod.mk.inj hp
    by_cases hr : reason = 0
    · rw [if_pos hr] at hss
      refine ⟨0, hr, ?_⟩
      unfold tkR
      rw [if_pos (by show s.size ≤ W.L.length; omega)]
      rfl
    · rw [if_neg hr] at hV hss hs
      obtain ⟨_, hn, hst⟩ := stepW_no hV
      obtain ⟨m, rfl, hm, hmL⟩ := numE_ok hn
      rw [hst, hmL] at hss hs
      simp only at hss hs
      have hb : (be 1 m).length = 1 := be_len 1 m
      rw [List.length_append, hb] at hss
      have hrn := rNum_ok (s := s) (pre := W.L) (post := []) hm (by rw [hs, List.append_nil]) ea
      refine ⟨m, rfl, ?_⟩
      unfold tkR
      rw [if_neg (by show ¬ s.size ≤ W.L.length; omega), hrn]
      simp only
      rw [ha (.inl hr), if_neg (by decide), if_pos (by omega)]
      rfl
  · rw [if_neg h0] at hp
    by_cases hen : (encR k L).no = 0
    · rw [if_pos hen] at hp
      obtain ⟨rfl, rfl⟩ := Prod.mk.inj hp
      obtain ⟨hc, hw, hE⟩ := encR_ok hen
      obtain ⟨h1, _, hst⟩ := stepW_no hV
      obtain ⟨_, hn, hst2⟩ := stepW_no h1
      obtain ⟨m, rfl, hm, hmL⟩ := numE_ok hn
      rw [hst, hst2, hmL, hE] at hss hs
      simp only at hss hs
      have hb : (be 1 m).length = 1 := be_len 1 m
      have hvb := (vb_len (wrAll (actsL6 L)).L.length hl).1
      rw [List.length_append, List.length_append, hb, List.length_append] at hss
      have hrn := rNum_ok (s := s) (pre := W.L) (post := vb (wrAll (actsL6 L)).L.length ++ (wrAll (actsL6 L)).L) hm (by rw [hs, List.append_assoc]) ea
      have hrd := read_at (place := k) (L := plL L) (chk_plL hc) (by rw [actsL6_plL]; exact hw) (fun p hp => by
        obtain ⟨q, hq, rfl⟩ := List.mem_map.1 hp
        obtain ⟨z1, z2⟩ := hsz q hq
        refine ⟨plV_plain q, ?_, ?_⟩ <;> (rcases plain_cases q.id with hh | hh | hh)
        · rw [plV_n hh]; show (⟨#[]⟩ : ByteArray).size < 65536; decide
        · rw [plV_6 hh]; exact z1
        · rw [plV_9 hh]; exact z1
        · rw [plV_n hh]; show (⟨#[]⟩ : ByteArray).size < 65536; decide
        · rw [plV_6 hh]; show (⟨#[]⟩ : ByteArray).size < 65536; decide
        · rw [plV_9 hh]; exact z2) (by rw [actsL6_plL]; exact hl) s (W.L ++ be 1 m) [] ea (by rw [actsL6_plL, hs]; simp)
      rw [List.length_append, hb, actsL6_plL] at hrd
      refine ⟨m, rfl, ?_⟩
      unfold tkR
      rw [if_neg (by show ¬ s.size ≤ W.L.length; omega), hrn]
      simp only
      rw [ha (.inr h0), if_neg (by decide), if_neg (by omega), hrd]
      simp only
      rw [if_pos trivial, if_neg (by rw [List.length_append]; omega)]
    · rw [if_neg hen] at hp
      obtain ⟨rfl, rfl⟩ := Prod.mk.inj hp
      exact absurd he hen
/-- What TakeReason reads may be written. -/
theorem take_put {k : Int} {s : ByteArray} {R : RV} (h0 : R.no = 0) (_hp : R.p ≤ s.size) (h : (tkR k s R).e.no = 0) : (tkR k s R).code < 256 ∧ ((tkR k s R).code ≠ 0 ∨ (tkR k s R).L ≠ [] → allowedB k (tkR k s R).code = true) ∧
    (∀ p ∈ (tkR k s R).L, EncP p) ∧ (catE (actsL6 (tkR k s R).L)).length ≤ s.size ∧ (chkL k (tkR k s R).L).1 = 0 ∧ (tkR k s R).L.length ≤ 64 := by
  have hnil : (∀ p ∈ ([] : PL), EncP p) ∧ (catE (actsL6 [])).length ≤ s.size ∧ (chkL k []).1 = 0 ∧ ([] : PL).length ≤ 64 := ⟨(fun p hp => by cases hp), Nat.zero_le _, rfl, Nat.zero_le _⟩
  unfold tkR at h ⊢
  by_cases h1 : s.size ≤ R.p
  · rw [if_pos h1]
    exact ⟨by decide, fun hh => by rcases hh with hh | hh <;> exact absurd rfl hh, hnil⟩
  · rw [if_neg h1] at h ⊢
    have hrl := rNum_left h0 (by omega : R.p < s.size)
    have hlt := (rNum_is (n := 1) h0 (by rw [hrl])).1
    by_cases h2 : allowedB k (rNum s 1 R).1 = false
    · rw [if_pos h2] at h
      exact absurd (show (2 : Nat) = 0 from h) (by decide)
    · rw [if_neg h2] at h ⊢
      have h2' : allowedB k (rNum s 1 R).1 = true := by simpa using h2
      by_cases h3 : s.size ≤ R.p + 1
      · rw [if_pos h3]
        exact ⟨by simp only; omega, fun _ => h2', hnil⟩
      · rw [if_neg h3] at h ⊢
        by_cases h4 : (readF k s (rNum s 1 R).2).1.no = 0
        · rw [if_pos h4] at h ⊢
          by_cases h5 : (readF k s (rNum s 1 R).2).2.p < s.size
          · rw [if_pos h5] at h
            exact absurd (show (2 : Nat) = 0 from h) (by decide)
          · rw [if_neg h5] at h ⊢
            obtain ⟨r1, r2, r3, r4⟩ := read_is k s (rNum s 1 R).2 h4
            exact ⟨by simp only; omega, fun _ => h2', r1, r2, r3, r4⟩
        · rw [if_neg h4] at h
          exact absurd h h4
end Go.Proofs.YtfkimpcaokgldaaGreatDoor
