/- What is proved here, on plain values: what stands ahead of a reader is read, step by step. Conditions: few bytes. What is proved here, on plain values: parts that follow one another are read as they were written. No conditions but that there are at most 32. What is proved here: what the decoders hold while they read, and how they end. Conditions: the reader and the result's block stand. What is proved here: what the decoders hold that fill a packet field by field; the rest of a reader, and Id. Conditions: the reader, the result's block and the packet's stand. -/
import Derived.Test.YtfkimpcaokgldaaGreatDoorBck08
import Derived.Test.YtfkimpcaokgldaaGreatDoorPkx08
import Derived.Test.YtfkimpcaokgldaaGreatDoorBod08
namespace Go.Proofs.YtfkimpcaokgldaaGreatDoor
set_option maxRecDepth 100000
open Go.RowKit Go.Extern.Stop Go.Stop Go.Extern
/-- A reader without an error, and what stands ahead of it. -/
def Cur (s : ByteArray) (R : RV) (l : List UInt8) : Prop := ∃ pre, R = ⟨pre.length, 0, 0⟩ ∧ s.data.toList = pre ++ l
section
variable {s : ByteArray} {R : RV} {l : List UInt8}
theorem Cur.start {l : List UInt8} (h : s.data.toList = l) : Cur s ⟨0, 0, 0⟩ l := ⟨[], rfl, h⟩
theorem Cur.no (h : Cur s R l) : R.no = 0 := by
  obtain ⟨pre, rfl, _⟩ := h
  rfl
theorem Cur.len (h : Cur s R l) : R.p + l.length = s.size := by
  obtain ⟨pre, rfl, hs⟩ := h
  have := slen hs
  rw [List.length_append] at this
  exact this.symm
theorem Cur.end_ (h : Cur s R []) : R.p = s.size := by
  have := h.len
  simpa using this
theorem Cur.num {k n : Nat} (hn : n < 256 ^ k) (h : Cur s R (be k n ++ l)) : ∃ R', rNum s k R = (n, R') ∧ R'.p = R.p + k ∧ Cur s R' l := by
  obtain ⟨pre, rfl, hs⟩ := h
  refine ⟨_, rNum_ok hn hs 0, rfl, pre ++ be k n, by rw [List.length_append, be_len], by rw [hs]; simp⟩
theorem Cur.text {t : ByteArray} (ht : (checkOf t).1 = 0) (h : Cur s R ((be 2 t.size ++ t.data.toList) ++ l)) : ∃ R', rText s R = (t, R') ∧ R'.p = R.p + 2 + t.size ∧ Cur s R' l := by
  obtain ⟨pre, rfl, hs⟩ := h
  refine ⟨_, rText_ok ht hs 0, by show pre.length + (2 + t.size) = pre.length + 2 + t.size; omega, pre ++ (be 2 t.size ++ t.data.toList), by rw [List.length_append, List.length_append, be_len, bLen], by rw [hs]; simp⟩
theorem Cur.bin {t : ByteArray} (ht : t.size < 65536) (h : Cur s R ((be 2 t.size ++ t.data.toList) ++ l)) : ∃ R', rBin s R = (t, R') ∧ R'.p = R.p + 2 + t.size ∧ Cur s R' l := by
  obtain ⟨pre, rfl, hs⟩ := h
  refine ⟨_, rBin_ok ht hs 0, by show pre.length + (2 + t.size) = pre.length + 2 + t.size; omega, pre ++ (be 2 t.size ++ t.data.toList), by rw [List.length_append, List.length_append, be_len, bLen], by rw [hs]; simp⟩
theorem Cur.props {k : Int} {L : PL} (he : (encR k L).no = 0) (hsz : ∀ p ∈ L, p.s.size < 65536 ∧ p.v.size < 65536) (hl : (wrAll (actsL6 L)).L.length ≤ 268435455) (h : Cur s R ((encR k L).L ++ l)) : ∃ R', readF k s R = (⟨0, 0, 0, plL L⟩, R') ∧ R'.p = R.p + (encR k L).L.length ∧ Cur s R' l := by
  obtain ⟨pre, rfl, hs⟩ := h
  refine ⟨_, read_enc he hsz hl s pre l 0 hs, rfl, pre ++ (encR k L).L, by rw [List.length_append], by rw [hs]; simp⟩
end
theorem textE_of {t : ByteArray} (ht : (checkOf t).1 = 0) : textE t = ⟨0, 0, be 2 t.size ++ t.data.toList⟩ := by
  unfold textE binE
  rw [if_pos ht]
theorem stepW_text {W : EV} (h : W.no = 0) {t : ByteArray} (ht : (checkOf t).1 = 0) : stepW W (textE t) = ⟨0, W.at_, W.L ++ (be 2 t.size ++ t.data.toList)⟩ := by
  rw [textE_of ht]
  exact stepW_ok h rfl
theorem stepW_bin {W : EV} (h : W.no = 0) (t : ByteArray) : stepW W (binE t) = ⟨0, W.at_, W.L ++ (be 2 t.size ++ t.data.toList)⟩ := stepW_ok h rfl
theorem stepW_num_no {W : EV} {k : Nat} {n : Int} (h : (stepW W (numE k n)).no = 0) : W.no = 0 ∧ ∃ m : Nat, n = m ∧ m < 256 ^ k ∧ stepW W (numE k n) = ⟨0, W.at_, W.L ++ be k m⟩ := by
  obtain ⟨h0, hn, hs⟩ := stepW_no h
  obtain ⟨m, hm, hm2, hmL⟩ := numE_ok hn
  exact ⟨h0, m, hm, hm2, by rw [hs, hmL]⟩
theorem stepW_text_no {W : EV} {t : ByteArray} (h : (stepW W (textE t)).no = 0) : W.no = 0 ∧ (checkOf t).1 = 0 ∧ stepW W (textE t) = ⟨0, W.at_, W.L ++ (be 2 t.size ++ t.data.toList)⟩ := by
  obtain ⟨h0, hn, hs⟩ := stepW_no h
  obtain ⟨ht, htL⟩ := textE_ok hn
  exact ⟨h0, ht, by rw [hs, htL]⟩
theorem stepW_any_no {W : EV} {l : List UInt8} (h : (stepW W ⟨0, 0, l⟩).no = 0) : W.no = 0 ∧ stepW W ⟨0, 0, l⟩ = ⟨0, W.at_, W.L ++ l⟩ := by
  obtain ⟨h0, _, hs⟩ := stepW_no h
  exact ⟨h0, hs⟩
theorem rText_sz {s : ByteArray} {R : RV} (h0 : R.no = 0) (hp : R.p ≤ s.size) (h : (rText s R).2.no = 0) : (checkOf (rText s R).1).1 = 0 ∧ (rText s R).1.size ≤ s.size ∧ (rText s R).2.p ≤ s.size := by
  obtain ⟨k1, k2, k3⟩ := rText_is h0 h
  have := rText_le (s := s) hp
  exact ⟨k1, by omega, this⟩
theorem rBin_sz {s : ByteArray} {R : RV} (h0 : R.no = 0) (hp : R.p ≤ s.size) (h : (rBin s R).2.no = 0) : (rBin s R).1.size ≤ s.size ∧ (rBin s R).1.size < 65536 ∧ (rBin s R).2.p ≤ s.size := by
  obtain ⟨k2, k3⟩ := rBin_is h0 h
  have := rBin_le (s := s) hp
  exact ⟨by omega, k2, this⟩
theorem no_of {R : RV} {X : RV} (h : X.no = 0) (hs : R.no ≠ 0 → X = R) : R.no = 0 := by
  by_cases c : R.no = 0
  · exact c
  · rw [hs c] at h
    exact absurd h c
end Go.Proofs.YtfkimpcaokgldaaGreatDoor
namespace Go.Proofs.YtfkimpcaokgldaaGreatDoor
set_option maxRecDepth 100000
open Go.RowKit Go.Extern.Stop Go.Stop Go.Extern
/-- What Parts tells, with so many more parts at most. -/
def ptL {X : Type} (rd : RV → Er × X × RV) (s : ByteArray) : Nat → List X → RV → Er × List X
  | 0, L, R => if s.size ≤ R.p then (if L.length = 0 then (⟨3, 130, R.p⟩, []) else (e00, L)) else (⟨4, 149, R.p⟩, [])
  | f + 1, L, R => if s.size ≤ R.p then (if L.length = 0 then (⟨3, 130, R.p⟩, []) else (e00, L)) else if (rd R).1.no = 0 then ptL rd s f (L ++ [(rd R).2.1]) (rd R).2.2 else ((rd R).1, [])
/-- What is known of parts. -/
structure PartK {X : Type} (rd : RV → Er × X × RV) (s : ByteArray) (st : EV → X → EV) (by_ : X → List UInt8) (pre post : X → Prop) : Prop where
  st_no : ∀ W x, (st W x).no = 0 → W.no = 0 ∧ pre x ∧ st W x = ⟨0, W.at_, W.L ++ by_ x⟩
  st_of : ∀ W x, W.no = 0 → pre x → st W x = ⟨0, W.at_, W.L ++ by_ x⟩
  pos : ∀ x, 0 < (by_ x).length
  rd_of : ∀ R x l, Cur s R (by_ x ++ l) → pre x → (rd R).1.no = 0 → ∃ R', rd R = (e00, x, R') ∧ Cur s R' l
  rd_no : ∀ R x l, Cur s R (by_ x ++ l) → post x → (rd R).1.no = 0
  of_rd : ∀ R, R.no = 0 → R.p < s.size → (rd R).1.no = 0 → post (rd R).2.1 ∧ (rd R).2.2.no = 0 ∧ (rd R).2.2.p ≤ s.size
  pre_of : ∀ x, post x → pre x
section
variable {X : Type} {rd : RV → Er × X × RV} {s : ByteArray} {st : EV → X → EV} {by_ : X → List UInt8} {pre post : X → Prop}
theorem ptL_bad (f : Nat) (L : List X) (R : RV) (h : (ptL rd s f L R).1.no ≠ 0) : (ptL rd s f L R).2 = [] := by
  induction f generalizing L R with
  | zero =>
    unfold ptL at h ⊢
    by_cases c : s.size ≤ R.p
    · rw [if_pos c] at h ⊢
      by_cases c1 : L.length = 0
      · rw [if_pos c1]
      · rw [if_neg c1] at h
        exact absurd rfl h
    · rw [if_neg c]
  | succ f ih =>
    unfold ptL at h ⊢
    by_cases c : s.size ≤ R.p
    · rw [if_pos c] at h ⊢
      by_cases c1 : L.length = 0
      · rw [if_pos c1]
      · rw [if_neg c1] at h
        exact absurd rfl h
    · rw [if_neg c] at h ⊢
      by_cases c1 : (rd R).1.no = 0
      · rw [if_pos c1] at h ⊢
        exact ih _ _ h
      · rw [if_neg c1]
theorem PartK.wr (K : PartK rd s st by_ pre post) : ∀ (P : List X) (f : Nat) (L : List X) (R : RV), Cur s R (P.flatMap by_) → (∀ x ∈ P, pre x) → (ptL rd s f L R).1.no = 0 → ptL rd s f L R = (e00, L ++ P) := by
  intro P
  induction P with
  | nil =>
    intro f L R hc _ h
    have he := hc.end_
    cases f with
    | zero =>
      unfold ptL at h ⊢
      rw [if_pos (by omega)] at h ⊢
      by_cases c : L.length = 0
      · rw [if_pos c] at h
        exact absurd (show (3 : Nat) = 0 from h) (by decide)
      · rw [if_neg c, List.append_nil]
    | succ f =>
      unfold ptL at h ⊢
      rw [if_pos (by omega)] at h ⊢
      by_cases c : L.length = 0
      · rw [if_pos c] at h
        exact absurd (show (3 : Nat) = 0 from h) (by decide)
      · rw [if_neg c, List.append_nil]
  | cons x P ih =>
    intro f L R hc hp h
    rw [List.flatMap_cons] at hc
    have hl := hc.len
    have hx := K.pos x
    rw [List.length_append] at hl
    cases f with
    | zero =>
      unfold ptL at h
      rw [if_neg (by omega)] at h
      exact absurd (show (4 : Nat) = 0 from h) (by decide)
    | succ f =>
      unfold ptL at h ⊢
      rw [if_neg (by omega)] at h ⊢
      by_cases c : (rd R).1.no = 0
      · rw [if_pos c] at h ⊢
        obtain ⟨R', e, hc'⟩ := K.rd_of R x _ hc (hp x (List.mem_cons_self ..)) c
        rw [e] at h ⊢
        simp only at h ⊢
        rw [ih f (L ++ [x]) R' hc' (fun y hy => hp y (List.mem_cons_of_mem _ hy)) h, List.append_assoc]
        rfl
      · rw [if_neg c] at h
        exact absurd h c
theorem PartK.of (K : PartK rd s st by_ pre post) : ∀ (P : List X) (f : Nat) (L : List X) (R : RV), Cur s R (P.flatMap by_) → (∀ x ∈ P, post x) → L ++ P ≠ [] → P.length ≤ f → (ptL rd s f L R).1.no = 0 := by
  intro P
  induction P with
  | nil =>
    intro f L R hc _ h0 _
    have he := hc.end_
    rw [List.append_nil] at h0
    have hl : ¬ L.length = 0 := fun hh => h0 (List.eq_nil_of_length_eq_zero hh)
    cases f with
    | zero =>
      unfold ptL
      rw [if_pos (by omega), if_neg hl]
      rfl
    | succ f =>
      unfold ptL
      rw [if_pos (by omega), if_neg hl]
      rfl
  | cons x P ih =>
    intro f L R hc hp h0 hf
    rw [List.flatMap_cons] at hc
    have hl := hc.len
    have hx := K.pos x
    rw [List.length_append] at hl
    cases f with
    | zero => simp at hf
    | succ f =>
      have c := K.rd_no R x _ hc (hp x (List.mem_cons_self ..))
      obtain ⟨R', e, hc'⟩ := K.rd_of R x _ hc (K.pre_of x (hp x (List.mem_cons_self ..))) c
      unfold ptL
      rw [if_neg (by omega), if_pos c, e]
      simp only
      exact ih f (L ++ [x]) R' hc' (fun y hy => hp y (List.mem_cons_of_mem _ hy)) (by simp) (by simpa using hf)
theorem PartK.rdo (K : PartK rd s st by_ pre post) : ∀ (f : Nat) (L : List X) (R : RV), R.no = 0 → R.p ≤ s.size → (ptL rd s f L R).1.no = 0 → ∃ P, ptL rd s f L R = (e00, L ++ P) ∧ (∀ x ∈ P, post x) ∧ L ++ P ≠ [] ∧ P.length ≤ f := by
  intro f
  induction f with
  | zero =>
    intro L R h0 hp h
    unfold ptL at h ⊢
    by_cases c : s.size ≤ R.p
    · rw [if_pos c] at h ⊢
      by_cases c1 : L.length = 0
      · rw [if_pos c1] at h
        exact absurd (show (3 : Nat) = 0 from h) (by decide)
      · rw [if_neg c1]
        exact ⟨[], by rw [List.append_nil], (fun x hx => by cases hx), (fun hh => c1 (by rw [List.append_nil] at hh; rw [hh]; rfl)), Nat.le_refl _⟩
    · rw [if_neg c] at h
      exact absurd (show (4 : Nat) = 0 from h) (by decide)
  | succ f ih =>
    intro L R h0 hp h
    unfold ptL at h ⊢
    by_cases c : s.size ≤ R.p
    · rw [if_pos c] at h ⊢
      by_cases c1 : L.length = 0
      · rw [if_pos c1] at h
        exact absurd (show (3 : Nat) = 0 from h) (by decide)
      · rw [if_neg c1]
        exact ⟨[], by rw [List.append_nil], (fun x hx => by cases hx), (fun hh => c1 (by rw [List.append_nil] at hh; rw [hh]; rfl)), Nat.zero_le _⟩
    · rw [if_neg c] at h ⊢
      by_cases c1 : (rd R).1.no = 0
      · rw [if_pos c1] at h ⊢
        obtain ⟨o1, o2, o3⟩ := K.of_rd R h0 (by omega) c1
        obtain ⟨P, p1, p2, p3, p4⟩ := ih _ _ o2 o3 h
        refine ⟨(rd R).2.1 :: P, by rw [p1, List.append_assoc]; rfl, fun x hx => ?_, by simp, by simpa using p4⟩
        rcases List.mem_cons.1 hx with rfl | hx
        · exact o1
        · exact p2 x hx
      · rw [if_neg c1] at h
        exact absurd h c1
theorem PartK.fold_no (K : PartK rd s st by_ pre post) : ∀ (P : List X) (W : EV), (P.foldl st W).no = 0 → W.no = 0 ∧ (∀ x ∈ P, pre x) ∧ P.foldl st W = ⟨0, (if P.length = 0 then W else ⟨0, W.at_, W.L⟩ : EV).at_, W.L ++ P.flatMap by_⟩ := by
  intro P
  induction P with
  | nil =>
    intro W h
    have h0 : W.no = 0 := h
    refine ⟨h0, (fun x hx => by cases hx), ?_⟩
    obtain ⟨a, b, c⟩ := W
    simp only at h0
    subst h0
    simp
  | cons x P ih =>
    intro W h
    rw [List.foldl_cons] at h ⊢
    obtain ⟨h1, h2, h3⟩ := ih _ h
    obtain ⟨k1, k2, k3⟩ := K.st_no W x h1
    refine ⟨k1, fun y hy => ?_, ?_⟩
    · rcases List.mem_cons.1 hy with rfl | hy
      · exact k2
      · exact h2 y hy
    · rw [h3, k3]
      simp
theorem PartK.fold_of (K : PartK rd s st by_ pre post) : ∀ (P : List X) (W : EV), W.no = 0 → (∀ x ∈ P, pre x) → P.foldl st W = ⟨0, W.at_, W.L ++ P.flatMap by_⟩ := by
  intro P
  induction P with
  | nil =>
    intro W h _
    obtain ⟨a, b, c⟩ := W
    simp only at h
    subst h
    simp
  | cons x P ih =>
    intro W h hp
    rw [List.foldl_cons, K.st_of W x h (hp x (List.mem_cons_self ..)), ih _ rfl (fun y hy => hp y (List.mem_cons_of_mem _ hy))]
    simp
end
/-- A text as a part. -/
def rdT (s : ByteArray) (R : RV) : Er × ByteArray × RV := if (rText s R).2.no = 0 then (e00, (rText s R).1, (rText s R).2) else (⟨(rText s R).2.no, 129, (rText s R).2.ea⟩, ⟨#[]⟩, (rText s R).2)
def stT (W : EV) (t : ByteArray) : EV := stepW W (textE t)
def preT (t : ByteArray) : Prop := (checkOf t).1 = 0
def postT (s : ByteArray) (t : ByteArray) : Prop := (checkOf t).1 = 0 ∧ t.size ≤ s.size
def byT8 (t : ByteArray) : List UInt8 := be 2 t.size ++ t.data.toList
theorem partT (s : ByteArray) : PartK (rdT s) s stT byT8 preT (postT s) where
  st_no W x h := by
    obtain ⟨h0, ht, hs⟩ := stepW_text_no h
    exact ⟨h0, ht, hs⟩
  st_of W x h hp := stepW_text h hp
  pos x := by
    unfold byT8
    rw [List.length_append, be_len]
    omega
  rd_of R x l hc hp h := by
    obtain ⟨R', e, _, hc'⟩ := hc.text hp
    refine ⟨R', ?_, hc'⟩
    unfold rdT
    rw [e]
    simp only
    rw [if_pos hc'.no]
  rd_no R x l hc hp := by
    obtain ⟨R', e, _, hc'⟩ := hc.text hp.1
    unfold rdT
    rw [e]
    simp only
    rw [if_pos hc'.no]
    rfl
  of_rd R h0 hp h := by
    unfold rdT at h ⊢
    by_cases c : (rText s R).2.no = 0
    · rw [if_pos c]
      obtain ⟨k1, k2, k3⟩ := rText_sz h0 (by omega) c
      exact ⟨⟨k1, k2⟩, c, k3⟩
    · rw [if_neg c] at h
      exact absurd h c
  pre_of x h := h.1
/-- A code as a part. -/
def rdC (k : Int) (s : ByteArray) (R : RV) : Er × Int × RV := if allowedB k (rNum s 1 R).1 = true then (e00, ((rNum s 1 R).1 : Int), (rNum s 1 R).2) else (⟨2, 129, R.p⟩, 0, (rNum s 1 R).2)
def stC (W : EV) (c : Int) : EV := stepW W (numE 1 c)
def preC (c : Int) : Prop := ∃ m : Nat, c = m ∧ m < 256
def postC (k : Int) (c : Int) : Prop := allowedB k c = true ∧ ∃ m : Nat, c = m ∧ m < 256
def byC8 (c : Int) : List UInt8 := be 1 c.toNat
theorem partC (k : Int) (s : ByteArray) : PartK (rdC k s) s stC byC8 preC (postC k) where
  st_no W x h := by
    obtain ⟨h0, m, rfl, hm2, hs⟩ := stepW_num_no h
    exact ⟨h0, ⟨m, rfl, by simpa using hm2⟩, by unfold byC8; rw [Int.toNat_natCast]; exact hs⟩
  st_of W x h hp := by
    obtain ⟨m, rfl, hm⟩ := hp
    unfold byC8
    rw [Int.toNat_natCast]
    exact stepW_num h (by omega)
  pos x := by
    unfold byC8
    rw [be_len]
    decide
  rd_of R x l hc hp h := by
    obtain ⟨m, rfl, hm⟩ := hp
    unfold byC8 at hc
    rw [Int.toNat_natCast] at hc
    obtain ⟨R', e, _, hc'⟩ := hc.num (k := 1) (n := m) (by omega)
    refine ⟨R', ?_, hc'⟩
    unfold rdC at h ⊢
    rw [e] at h ⊢
    simp only at h ⊢
    by_cases c : allowedB k m = true
    · rw [if_pos c]
    · rw [if_neg c] at h
      exact absurd (show (2 : Nat) = 0 from h) (by decide)
  rd_no R x l hc hp := by
    obtain ⟨ha, m, rfl, hm⟩ := hp
    unfold byC8 at hc
    rw [Int.toNat_natCast] at hc
    obtain ⟨R', e, _, hc'⟩ := hc.num (k := 1) (n := m) (by omega)
    unfold rdC
    rw [e]
    simp only
    rw [if_pos ha]
    rfl
  of_rd R h0 hp h := by
    unfold rdC at h ⊢
    by_cases c : allowedB k (rNum s 1 R).1 = true
    · rw [if_pos c]
      have h1 := rNum_left (s := s) h0 hp
      have h2 := (rNum_is (n := 1) h0 (by rw [h1])).1
      refine ⟨⟨c, _, rfl, by omega⟩, by simp only; rw [h1], by simp only; rw [h1]; show R.p + 1 ≤ _; omega⟩
    · rw [if_neg c] at h
      exact absurd (show (2 : Nat) = 0 from h) (by decide)
  pre_of x h := h.2
/-- The head of a packet with parts. -/
structure TH where
  e : Er
  id : Nat
  L : PL
  R : RV
def thF (k : Int) (s : ByteArray) : TH :=
  if (rNum s 2 ⟨0, 0, 0⟩).2.no = 0 then
    if (rNum s 2 ⟨0, 0, 0⟩).1 = 0 then ⟨⟨3, 130, 0⟩, 0, [], (rNum s 2 ⟨0, 0, 0⟩).2⟩
    else if (readF k s (rNum s 2 ⟨0, 0, 0⟩).2).1.no = 0 then ⟨e00, (rNum s 2 ⟨0, 0, 0⟩).1, (readF k s (rNum s 2 ⟨0, 0, 0⟩).2).1.L, (readF k s (rNum s 2 ⟨0, 0, 0⟩).2).2⟩
    else ⟨⟨(readF k s (rNum s 2 ⟨0, 0, 0⟩).2).1.no, (readF k s (rNum s 2 ⟨0, 0, 0⟩).2).1.r, (readF k s (rNum s 2 ⟨0, 0, 0⟩).2).1.at_⟩, 0, [], (readF k s (rNum s 2 ⟨0, 0, 0⟩).2).2⟩
  else ⟨⟨(rNum s 2 ⟨0, 0, 0⟩).2.no, 129, (rNum s 2 ⟨0, 0, 0⟩).2.ea⟩, 0, [], (rNum s 2 ⟨0, 0, 0⟩).2⟩
/-- A packet with parts. -/
def pkS (k id : Int) (L : PL) (subs : List SV) (filters : List ByteArray) (codes : List Int) : Pk := ⟨k, id, 0, L, false, 0, ⟨#[]⟩, false, ⟨#[]⟩, ⟨#[]⟩, 0, false, [], false, ⟨#[]⟩, false, ⟨#[]⟩, false, ⟨#[]⟩, ⟨#[]⟩, 0, false, false, subs, filters, codes⟩
structure ThOk (k : Int) (s : ByteArray) : Prop where
  id : (thF k s).id ≠ 0 ∧ (thF k s).id < 65536
  no : (thF k s).R.no = 0
  le : (thF k s).R.p ≤ s.size
  ok : RdOk k s (thF k s).L
theorem th_ok {k : Int} {s : ByteArray} (h : (thF k s).e.no = 0) : ThOk k s := by
  have l1 : (rNum s 2 ⟨0, 0, 0⟩).2.p ≤ s.size := (rTake_le (Nat.zero_le _)).1
  by_cases c1 : (rNum s 2 ⟨0, 0, 0⟩).2.no = 0
  · by_cases c2 : (rNum s 2 ⟨0, 0, 0⟩).1 = 0
    · unfold thF at h
      rw [if_pos c1, if_pos c2] at h
      exact absurd (show (3 : Nat) = 0 from h) (by decide)
    · by_cases c3 : (readF k s (rNum s 2 ⟨0, 0, 0⟩).2).1.no = 0
      · have e : thF k s = ⟨e00, (rNum s 2 ⟨0, 0, 0⟩).1, (readF k s (rNum s 2 ⟨0, 0, 0⟩).2).1.L, (readF k s (rNum s 2 ⟨0, 0, 0⟩).2).2⟩ := by
          unfold thF
          rw [if_pos c1, if_neg c2, if_pos c3]
        constructor <;> rw [e] <;> simp only
        · exact ⟨c2, (rNum_is (n := 2) rfl c1).1⟩
        · exact readF_no c3
        · have h := (rTake_le (n := (rVar s (rNum s 2 ⟨0, 0, 0⟩).2).1) (rVar_le l1)).1
          unfold readF
          split <;> exact h
        · exact rd_ok c3
      · unfold thF at h
        rw [if_pos c1, if_neg c2, if_neg c3] at h
        exact absurd h c3
  · unfold thF at h
    rw [if_neg c1] at h
    exact absurd h c1
theorem th_bad {k : Int} {s : ByteArray} (h : (thF k s).e.no ≠ 0) : (thF k s).id = 0 ∧ (thF k s).L = [] := by
  unfold thF at h ⊢
  by_cases c1 : (rNum s 2 ⟨0, 0, 0⟩).2.no = 0
  · rw [if_pos c1] at h ⊢
    by_cases c2 : (rNum s 2 ⟨0, 0, 0⟩).1 = 0
    · rw [if_pos c2]
      exact ⟨rfl, rfl⟩
    · rw [if_neg c2] at h ⊢
      by_cases c3 : (readF k s (rNum s 2 ⟨0, 0, 0⟩).2).1.no = 0
      · rw [if_pos c3] at h
        exact absurd rfl h
      · rw [if_neg c3]
        exact ⟨rfl, rfl⟩
  · rw [if_neg c1]
    exact ⟨rfl, rfl⟩
/-- What was written ahead is read. -/
theorem th_wr {k : Int} {s : ByteArray} {id : Nat} {L : PL} {l : List UInt8} (hid : id < 65536) (he : (encR k L).no = 0) (hsz : ∀ q ∈ L, q.s.size < 65536 ∧ q.v.size < 65536) (hl : (wrAll (actsL6 L)).L.length ≤ 268435455) (hs : s.data.toList = be 2 id ++ ((encR k L).L ++ l)) :
    if id = 0 then (thF k s).e.no = 3 else ∃ R, thF k s = ⟨e00, id, plL L, R⟩ ∧ Cur s R l := by
  have c0 := Cur.start hs
  obtain ⟨R1, e1, _, c1⟩ := c0.num (k := 2) (n := id) (by omega)
  obtain ⟨R2, e2, _, c2⟩ := c1.props he hsz hl
  split
  · rename_i h0
    unfold thF
    rw [e1]
    simp only
    rw [if_pos c1.no, if_pos h0]
  · rename_i h0
    refine ⟨R2, ?_, c2⟩
    unfold thF
    rw [e1]
    simp only
    rw [if_pos c1.no, if_neg h0, e2]
    simp only
    rw [if_pos trivial]
/-- What PutHead writes. -/
def phW (p : Pk) : EV := stepW (stepW w0 (numE 2 p.id)) ⟨0, 0, (encR p.kind p.props).L⟩
theorem phW_no {p : Pk} (h : (phW p).no = 0) : ∃ m : Nat, p.id = m ∧ m < 65536 ∧ (phW p).L = be 2 m ++ (encR p.kind p.props).L := by
  unfold phW at h ⊢
  obtain ⟨h1, h2⟩ := stepW_any_no h
  obtain ⟨_, m, hm, hm2, h3⟩ := stepW_num_no h1
  exact ⟨m, hm, by omega, by rw [h2, h3]; simp [w0]⟩
theorem phW_of {k : Int} {id : Nat} {L : PL} {a : List SV} {b : List ByteArray} {c : List Int} (h : id < 65536) : phW (pkS k id L a b c) = ⟨0, 0, be 2 id ++ (encR k L).L⟩ := by
  unfold phW
  show stepW (stepW w0 (numE 2 (id : Int))) ⟨0, 0, (encR k L).L⟩ = _
  rw [stepW_num (W := w0) (k := 2) (m := id) rfl (by omega), stepW_raw rfl]
  simp [w0]
end Go.Proofs.YtfkimpcaokgldaaGreatDoor
namespace Go.Proofs.YtfkimpcaokgldaaGreatDoor
set_option maxRecDepth 100000
open Go.ChangeShapes Go.WideShapes Go.RowKit Go.Deep Go.Extern.Stop Go.Stop Go.Extern
section
variable {w w' : World} {B k : Nat} {A : PkA} {p : Pk} {old : Array Value}
theorem CIn.row {t : TypeId} {a : Option Addr} {cs : List Value} (h : CIn w B t a cs) (hb : Blk w k 29 old) (hB : B ≤ k) (ht : 29 ≠ t) (c : Array Value) : CIn (w.setRow k c) B t a cs :=
  h.fr (setRow_fr w k c) fun g hg => by
    rw [List.mem_singleton] at hg
    subst hg
    exact ⟨hB, fun cs hc => hb.other hc ht rfl⟩
theorem PkIn.row (h : PkIn w B A p) (hb : Blk w k 29 old) (hB : B ≤ k) (c : Array Value) : PkIn (w.setRow k c) B A p :=
  ⟨h.pr.row hb hB c, h.pc, h.wr.row hb hB c, h.wc, h.sb.row hb hB (by decide) c, h.fl.row hb hB (by decide) c, h.cd.row hb hB (by decide) c⟩
theorem CIn.cell {t : TypeId} {a : Option Addr} {cs : List Value} (h : CIn w B t a cs) (hb : Blk w k 29 old) (hB : B ≤ k) (ht : 29 ≠ t) (i : Nat) (u : Value) : CIn (w.setCell ⟨k, i, none⟩ u) B t a cs :=
  h.fr ((Fr.refl [k] w).setCell (p := (⟨k, i, none⟩ : Addr)) (.inl (List.mem_singleton_self k)) u) fun g hg => by
    rw [List.mem_singleton] at hg
    subst hg
    exact ⟨hB, fun cs hc => hb.other hc ht rfl⟩
theorem PkIn.cell (h : PkIn w B A p) (hb : Blk w k 29 old) (hB : B ≤ k) (i : Nat) (u : Value) : PkIn (w.setCell ⟨k, i, none⟩ u) B A p :=
  ⟨h.pr.cell hb hB i u, h.pc, h.wr.cell hb hB i u, h.wc, h.sb.cell hb hB (by decide) i u, h.fl.cell hb hB (by decide) i u, h.cd.cell hb hB (by decide) i u⟩
end
theorem DcSays.bad8 {w w' : World} {S : Nat → Addr} {q : Er × Pk} {z : Array Value} {e : Value} (hz : z = pk0.cells pa0) (hq : q.2 = pk0) (he : ErrOf w' S q.1.r q.1.no q.1.at_ e) (hb : Below w.heap.size w w') : DcSays w S q (.returned (.tuple #[.agg z, e])) w' :=
  ⟨pa0, e, by rw [hq, hz]; rfl, by rw [hq]; exact PkIn.zero _ _, he, hb⟩
/-- What a decoder holds: the result's block, still empty, and the reader. -/
structure DcI (w W : World) (S : Nat → Addr) (g : Nat) (s : ByteArray) (R : RV) (z : Array Value) : Prop where
  bel : Below w.heap.size w W
  res : Blk W (w.heap.size + 1) 29 z
  rd : RObj W S g s R
  low : w.heap.size ≤ g
section
variable {w W W' : World} {S : Nat → Addr} {g : Nat} {s : ByteArray} {R R' : RV} {z c : Array Value}
theorem rd_ne8 {k : Nat} (ho : RObj W S g s R) (hb : Blk W k 29 c) : k ≠ g := fun h => by
  obtain ⟨e, h1, _⟩ := ho.blk
  exact hb.other h1 (by decide) h
theorem Blk.rnext {k : Nat} (hb : Blk W k 29 c) (ho : RObj W S g s R) (hn : RNext W W' S g s R') : Blk W' k 29 c :=
  hb.fr hn.fr fun hm => by
    rw [List.mem_singleton] at hm
    exact rd_ne8 ho hb hm
theorem DcI.below (h : DcI w W S g s R z) (hb : Below W.heap.size W W') : DcI w W' S g s R z := ⟨h.bel.trans (hb.mono h.bel.size), h.res.below hb h.res.lt, h.rd.below hb, h.low⟩
theorem DcI.step (h : DcI w W S g s R z) (hn : RNext W W' S g s R') : DcI w W' S g s R' z := ⟨hn.later h.low h.bel.size h.bel, h.res.rnext h.rd hn, hn.obj, h.low⟩
/-- Decode's end with an error. -/
theorem DcI.bad (h : DcI w W S g s R z) (hz : z = pk0.cells pa0) {q : Er × Pk} (hq : q.2 = pk0) {e : Value} (he : ErrOf W S q.1.r q.1.no q.1.at_ e) :
    Blk (W.setRow (w.heap.size + 1) z) (w.heap.size + 1) 29 z ∧ DcSays w S q (.returned (.tuple #[.agg z, e])) (W.setRow (w.heap.size + 1) z) :=
  ⟨setRow_blk h.res z, pa0, e, by rw [hq, hz]; rfl, by rw [hq]; exact PkIn.zero _ _, err_row he h.res z, below_row h.bel (by omega) z⟩
/-- Its end with a packet. -/
theorem DcI.good (h : DcI w W S g s R z) {p : Pk} {A : PkA} (hp : PkIn W w.heap.size A p) {y : Array Value} (hy : y = p.cells A) :
    Blk (W.setRow (w.heap.size + 1) y) (w.heap.size + 1) 29 y ∧ DcSays w S (e00, p) (.returned (.tuple #[.agg y, .nilIface])) (W.setRow (w.heap.size + 1) y) :=
  ⟨setRow_blk h.res y, A, .nilIface, by rw [hy]; rfl, hp.row h.res (by omega) y, ErrOf.none, below_row h.bel (by omega) y⟩
end
end Go.Proofs.YtfkimpcaokgldaaGreatDoor
namespace Go.Proofs.YtfkimpcaokgldaaGreatDoor
set_option maxRecDepth 100000
open Go.ChangeShapes Go.WideShapes Go.RowKit Go.Deep Go.Extern.Stop Go.Stop Go.Extern
/-- A decoder that fills a packet in a block of its own. -/
structure DcJ (w W : World) (S : Nat → Addr) (g : Nat) (s : ByteArray) (R : RV) (z : Array Value) (k : Nat) (y : Array Value) : Prop where
  inn : DcI w W S g s R z
  box : Blk W k 29 y
  low : w.heap.size + 2 ≤ k
section
variable {w z' W W' : World} {S : Nat → Addr} {g k : Nat} {s : ByteArray} {R R' : RV} {z y c : Array Value} {B : Nat} {A : Option Addr} {L : PL}
theorem DcJ.below (h : DcJ w W S g s R z k y) (hb : Below W.heap.size W W') : DcJ w W' S g s R z k y := ⟨h.inn.below hb, h.box.below hb h.box.lt, h.low⟩
theorem DcJ.step (h : DcJ w W S g s R z k y) (hn : RNext W W' S g s R') : DcJ w W' S g s R' z k y := ⟨h.inn.step hn, h.box.rnext h.inn.rd hn, h.low⟩
theorem DcJ.cell (h : DcJ w W S g s R z k y) (i : Nat) (u : Value) : DcJ w (W.setCell ⟨k, i, none⟩ u) S g s R z k (y.setIfInBounds i u) := by
  have hl := h.low
  refine ⟨⟨h.inn.bel.setCell (p := ⟨k, i, none⟩) (by show w.heap.size ≤ k; omega) u, h.inn.res.far (p := ⟨k, i, none⟩) (by show w.heap.size + 1 ≠ k; omega) u, ?_, h.inn.low⟩, h.box.store i u, h.low⟩
  exact h.inn.rd.fr ((Fr.refl [k] W).setCell (p := (⟨k, i, none⟩ : Addr)) (.inl (List.mem_singleton_self k)) u) (fun hm => by
    rw [List.mem_singleton] at hm
    exact rd_ne8 h.inn.rd h.box hm.symm) (pkt_nof h.box)
theorem DcJ.get (h : DcJ w W S g s R z k y) {i : Nat} {v : Value} (hv : y[i]? = some v) : W.cell? ⟨k, i, none⟩ = some v := (h.box.cell i).trans hv
theorem DcJ.pin (h : DcJ w W S g s R z k y) (hB : B ≤ w.heap.size) (hp : PIn W B A L) (i : Nat) (u : Value) : PIn (W.setCell ⟨k, i, none⟩ u) B A L := hp.cell h.box (by have := h.low; omega) i u
theorem DcJ.err (h : DcJ w W S g s R z k y) {r : Int} {no at_ : Nat} {e : Value} (he : ErrOf W S r no at_ e) (i : Nat) (u : Value) : ErrOf (W.setCell ⟨k, i, none⟩ u) S r no at_ e := err_cell he h.box i u
/-- A reader goes on beside rows of properties. -/
theorem PIn.rnext (h : PIn W B A L) (hg : B ≤ g) (ho : RObj W S g s R) (hn : RNext W W' S g s R') : PIn W' B A L :=
  h.fr hn.fr fun x hx => by
    rw [List.mem_singleton] at hx
    subst hx
    exact ⟨hg, fun cs hc => by
      obtain ⟨e, h1, _⟩ := ho.blk
      exact h1.other hc (by decide) rfl⟩
theorem rrest_any (hE : Env W S) (h : RObj W S g s R) (hs : s.size ≤ 900000) :
    Calls Tryz.prog 145 #[.pointer (some ⟨g, 0, none⟩)] W (TSays W S g s (.string (rTake s (s.size - R.p) R).1) (rTake s (s.size - R.p) R).2) := by
  have HL := Lib.hid (rleft_any h (by omega))
  have HN := Lib.hid (fun (W1 : World) (hb : Below W.heap.size W W1) => rtake_any (hE.later hb) (h.below hb) (by omega) (s.size - R.p))
  clear h hE hs
  generalize rTake s (s.size - R.p) R = q at *
  generalize s.size - R.p = n at *
  go_enter Tryz.func145, Tryz.ntmps145
  go_wp2_with fail
  refine HL.out.mono ?_
  rintro x w1 ⟨rfl, hb1⟩
  have HN1 := Lib.hid (HN.out w1 hb1)
  have HB1 := Lib.hid hb1
  clear hb1 HN HL
  go_wp2_with fail
  refine HN1.out.mono ?_
  rintro x w2 ⟨rfl, hn2⟩
  have HX := Lib.hid (hn2.pre HB1.out)
  clear hn2 HN1
  go_wp2_with fail
  go_ret
  exact ⟨rfl, HX.out⟩
/-- What Id tells. -/
def idR (s : ByteArray) (R : RV) : Er × Nat × RV :=
  if (rNum s 2 R).2.no = 0 then if (rNum s 2 R).1 = 0 then (⟨3, 130, R.p⟩, 0, (rNum s 2 R).2) else (e00, (rNum s 2 R).1, (rNum s 2 R).2) else (⟨(rNum s 2 R).2.no, 129, (rNum s 2 R).2.ea⟩, 0, (rNum s 2 R).2)
def IdSays (W : World) (S : Nat → Addr) (g : Nat) (s : ByteArray) (q : Er × Nat × RV) (x : Ending) (W' : World) : Prop := ∃ e, x = .returned (.tuple #[.int .i64 q.2.1, e]) ∧ ErrOf W' S q.1.r q.1.no q.1.at_ e ∧ RNext W W' S g s q.2.2
set_option maxHeartbeats 4000000 in
theorem id_any (hE : Env z' S) (hz : Below z'.heap.size z' W) (hg : z'.heap.size ≤ g) (h : RObj W S g s R) (hs : s.size ≤ 900000) : Calls Tryz.prog 144 #[.pointer (some ⟨g, 0, none⟩)] W (IdSays W S g s (idR s R)) := by
  obtain ⟨q, hq⟩ : ∃ q, q = idR s R := ⟨_, rfl⟩
  rw [← hq]
  unfold idR at hq
  have HAT := Lib.hid (rat_any h)
  have hu := ru16_any (hE.later hz) h (by omega)
  obtain ⟨⟨n, R1⟩, hn⟩ : ∃ V, V = rNum s 2 R := ⟨_, rfl⟩
  rw [← hn] at hu hq
  simp only at hu hq
  have HU := Lib.hid hu
  have HQ := Lib.hid hq
  have HE := Lib.hid hE
  have HZ := Lib.hid hz
  obtain ⟨p, hp⟩ : ∃ p, p = R.p := ⟨_, rfl⟩
  rw [← hp] at HAT HQ
  clear hu hq hE hz h hs hn hp
  go_enter Tryz.func144, Tryz.ntmps144
  go_wp2_with fail
  refine HAT.out.mono ?_
  rintro x w1 ⟨rfl, rfl⟩
  go_wp2_with fail
  refine HU.out.mono ?_
  rintro x w2 ⟨rfl, hn2⟩
  have HN2 := Lib.hid hn2
  have HZ2 := Lib.hid (hn2.later hg HZ.out.size HZ.out)
  have HRE := Lib.hid (rerr_any hn2.obj)
  clear hn2 HU HAT
  go_wp2_with fail
  refine HRE.out.mono ?_
  rintro x w3 ⟨e, rfl, he, rfl⟩
  by_cases h0 : R1.no = 0
  · unfold ErrOf at he
    rw [if_pos h0] at he
    subst he
    have hq := HQ.out
    rw [if_pos h0] at hq
    by_cases hn0 : n = 0
    · subst hn0
      rw [if_pos rfl] at hq
      have HQ2 := Lib.hid hq
      have kP := (HE.out.later HZ2.out).kProtocol
      have HN := Lib.hid (new_err (w := w2) S 2 130 (p : Int))
      clear hq HRE HQ h0
      go_wp2_with fail
      refine HN.out.mono ?_
      rintro x w4 ⟨e, rfl, he, hb⟩
      have HX := Lib.hid (show IdSays W S g s q (.returned (.tuple #[.int .i64 0, e])) w4 from by
        rw [HQ2.out]
        exact ⟨e, rfl, ErrOf.some (no := 3) (by decide) (by decide) he, HN2.out.below hb⟩)
      clear he hb HN kP
      go_wp2_with fail
      exact bodyPost_ret (v := .tuple #[.int .i64 0, e]) (by simp [results, Tryz.results144, go_sem]) rfl HX.out
    · rw [if_neg hn0] at hq
      have hni : ¬ (n : Int) = 0 := by omega
      have HX := Lib.hid (show IdSays W S g s q (.returned (.tuple #[.int .i64 n, .nilIface])) w2 from by
        rw [hq]
        exact ⟨_, rfl, ErrOf.none, HN2.out⟩)
      clear hq HRE HQ h0 hn0
      go_wp2_with fail
      exact bodyPost_ret (v := .tuple #[.int .i64 n, .nilIface]) (by simp [results, Tryz.results144, go_sem]) rfl HX.out
  · obtain ⟨te, ue, rfl⟩ := err_iface he h0
    have hq := HQ.out
    rw [if_neg h0] at hq
    have HX := Lib.hid (show IdSays W S g s q (.returned (.tuple #[.int .i64 0, .iface te ue])) w2 from by
      rw [hq]
      exact ⟨_, rfl, he, HN2.out⟩)
    clear hq HRE HQ h0 he
    go_wp2_with fail
    exact bodyPost_ret (v := .tuple #[.int .i64 0, .iface te ue]) (by simp [results, Tryz.results144, go_sem]) rfl HX.out
end
end Go.Proofs.YtfkimpcaokgldaaGreatDoor
