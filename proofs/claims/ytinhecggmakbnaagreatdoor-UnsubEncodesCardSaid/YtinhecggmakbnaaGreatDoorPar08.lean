/- What is proved here, on plain values: parts that follow one another are read as they were written. No conditions but that there are at most 32. -/
import Derived.Test.YtinhecggmakbnaaGreatDoorCur08
namespace Go.Proofs.YtinhecggmakbnaaGreatDoor
set_option maxRecDepth 100000
open Go.RowKit Go.Extern.Stop Go.Stop Go.Extern
/-- What Parts tells, with so many more parts at most. -/
def ptL {X : Type} (rd : RV → Er × X × RV) (s : ByteArray) : Nat → List X → RV → Er × List X
  | 0, L, R => if s.size ≤ R.p then (if L.length = 0 then (⟨3, 130, R.p⟩, []) else (e00, L)) else (⟨4, 149, R.p⟩, [])
  | f + 1, L, R => if s.size ≤ R.p then (if L.length = 0 then (⟨3, 130, R.p⟩, []) else (e00, L)) else if (rd R).1.no = 0 then ptL rd s f (L ++ [(rd R).2.1]) (rd R).2.2 else ((rd R).1, [])
/-- What is known of parts. -/
structure PartK {X : Type} (rd : RV → Er × X × RV) (s : ByteArray) (st : EV → X → EV) (by_ : X → List UInt8) (pre post : X → Prop) : Prop where
  st_no : ∀ W x, (st W x).no = 0 → W.no = 0 ∧ pre x ∧ st W x = ⟨0, W.at_, W.L ++ by_ x⟩
  st_of : ∀ W x, W.no = 0 → pre x → st W x = ⟨0, W.at_, W.L ++ by_ x⟩
  pos : ∀ x, 0 < (by_ x).length
  rd_of : ∀ R x l, Cur s R (by_ x ++ l) → pre x → (rd R).1.no = 0 → ∃ R', rd R = (e00, x, R') ∧ Cur s R' l
  rd_no : ∀ R x l, Cur s R (by_ x ++ l) → post x → (rd R).1.no = 0
  of_rd : ∀ R, R.no = 0 → R.p < s.size → (rd R).1.no = 0 → post (rd R).2.1 ∧ (rd R).2.2.no = 0 ∧ (rd R).2.2.p ≤ s.size
  pre_of : ∀ x, post x → pre x
section
variable {X : Type} {rd : RV → Er × X × RV} {s : ByteArray} {st : EV → X → EV} {by_ : X → List UInt8} {pre post : X → Prop}
theorem ptL_bad (f : Nat) (L : List X) (R : RV) (h : (ptL rd s f L R).1.no ≠ 0) : (ptL rd s f L R).2 = [] := by
  induction f generalizing L R with
  | zero =>
    unfold ptL at h ⊢
    by_cases c : s.size ≤ R.p
    · rw [if_pos c] at h ⊢
      by_cases c1 : L.length = 0
      · rw [if_pos c1]
      · rw [if_neg c1] at h
        exact absurd rfl h
    · rw [if_neg c]
  | succ f ih =>
    unfold ptL at h ⊢
    by_cases c : s.size ≤ R.p
    · rw [if_pos c] at h ⊢
      by_cases c1 : L.length = 0
      · rw [if_pos c1]
      · rw [if_neg c1] at h
        exact absurd rfl h
    · rw [if_neg c] at h ⊢
      by_cases c1 : (rd R).1.no = 0
      · rw [if_pos c1] at h ⊢
        exact ih _ _ h
      · rw [if_neg c1]
theorem PartK.wr (K : PartK rd s st by_ pre post) : ∀ (P : List X) (f : Nat) (L : List X) (R : RV), Cur s R (P.flatMap by_) → (∀ x ∈ P, pre x) → (ptL rd s f L R).1.no = 0 → ptL rd s f L R = (e00, L ++ P) := by
  intro P
  induction P with
  | nil =>
    intro f L R hc _ h
    have he := hc.end_
    cases f with
    | zero =>
      unfold ptL at h ⊢
      rw [if_pos (by omega)] at h ⊢
      by_cases c : L.length = 0
      · rw [if_pos c] at h
        exact absurd (show (3 : Nat) = 0 from h) (by decide)
      · rw [if_neg c, List.append_nil]
    | succ f =>
      unfold ptL at h ⊢
      rw [if_pos (by omega)] at h ⊢
      by_cases c : L.length = 0
      · rw [if_pos c] at h
        exact absurd (show (3 : Nat) = 0 from h) (by decide)
      · rw [if_neg c, List.append_nil]
  | cons x P ih =>
    intro f L R hc hp h
    rw [List.flatMap_cons] at hc
    have hl := hc.len
    have hx := K.pos x
    rw [List.length_append] at hl
    cases f with
    | zero =>
      unfold ptL at h
      rw [if_neg (by omega)] at h
      exact absurd (show (4 : Nat) = 0 from h) (by decide)
    | succ f =>
      unfold ptL at h ⊢
      rw [if_neg (by omega)] at h ⊢
      by_cases c : (rd R).1.no = 0
      · rw [if_pos c] at h ⊢
        obtain ⟨R', e, hc'⟩ := K.rd_of R x _ hc (hp x (List.mem_cons_self ..)) c
        rw [e] at h ⊢
        simp only at h ⊢
        rw [ih f (L ++ [x]) R' hc' (fun y hy => hp y (List.mem_cons_of_mem _ hy)) h, List.append_assoc]
        rfl
      · rw [if_neg c] at h
        exact absurd h c
theorem PartK.of (K : PartK rd s st by_ pre post) : ∀ (P : List X) (f : Nat) (L : List X) (R : RV), Cur s R (P.flatMap by_) → (∀ x ∈ P, post x) → L ++ P ≠ [] → P.length ≤ f → (ptL rd s f L R).1.no = 0 := by
  intro P
  induction P with
  | nil =>
    intro f L R hc _ h0 _
    have he := hc.end_
    rw [List.append_nil] at h0
    have hl : ¬ L.length = 0 := fun hh => h0 (List.eq_nil_of_length_eq_zero hh)
    cases f with
    | zero =>
      unfold ptL
      rw [if_pos (by omega), if_neg hl]
      rfl
    | succ f =>
      unfold ptL
      rw [if_pos (by omega), if_neg hl]
      rfl
  | cons x P ih =>
    intro f L R hc hp h0 hf
    rw [List.flatMap_cons] at hc
    have hl := hc.len
    have hx := K.pos x
    rw [List.length_append] at hl
    cases f with
    | zero => simp at hf
    | succ f =>
      have c := K.rd_no R x _ hc (hp x (List.mem_cons_self ..))
      obtain ⟨R', e, hc'⟩ := K.rd_of R x _ hc (K.pre_of x (hp x (List.mem_cons_self ..))) c
      unfold ptL
      rw [if_neg (by omega), if_pos c, e]
      simp only
      exact ih f (L ++ [x]) R' hc' (fun y hy => hp y (List.mem_cons_of_mem _ hy)) (by simp) (by simpa using hf)
theorem PartK.rdo (K : PartK rd s st by_ pre post) : ∀ (f : Nat) (L : List X) (R : RV), R.no = 0 → R.p ≤ s.size → (ptL rd s f L R).1.no = 0 → ∃ P, ptL rd s f L R = (e00, L ++ P) ∧ (∀ x ∈ P, post x) ∧ L ++ P ≠ [] ∧ P.length ≤ f := by
  intro f
  induction f with
  | zero =>
    intro L R h0 hp h
    unfold ptL at h ⊢
    by_cases c : s.size ≤ R.p
    · rw [if_pos c] at h ⊢
      by_cases c1 : L.length = 0
      · rw [if_pos c1] at h
        exact absurd (show (3 : Nat) = 0 from h) (by decide)
      · rw [if_neg c1]
        exact ⟨[], by rw [List.append_nil], (fun x hx => by cases hx), (fun hh => c1 (by rw [List.append_nil] at hh; rw [hh]; rfl)), Nat.le_refl _⟩
    · rw [if_neg c] at h
      exact absurd (show (4 : Nat) = 0 from h) (by decide)
  | succ f ih =>
    intro L R h0 hp h
    unfold ptL at h ⊢
    by_cases c : s.size ≤ R.p
    · rw [if_pos c] at h ⊢
      by_cases c1 : L.length = 0
      · rw [if_pos c1] at h
        exact absurd (show (3 : Nat) = 0 from h) (by decide)
      · rw [if_neg c1]
        exact ⟨[], by rw [List.append_nil], (fun x hx => by cases hx), (fun hh => c1 (by rw [List.append_nil] at hh; rw [hh]; rfl)), Nat.zero_le _⟩
    · rw [if_neg c] at h ⊢
      by_cases c1 : (rd R).1.no = 0
      · rw [if_pos c1] at h ⊢
        obtain ⟨o1, o2, o3⟩ := K.of_rd R h0 (by omega) c1
        obtain ⟨P, p1, p2, p3, p4⟩ := ih _ _ o2 o3 h
        refine ⟨(rd R).2.1 :: P, by rw [p1, List.append_assoc]; rfl, fun x hx => ?_, by simp, by simpa using p4⟩
        rcases List.mem_cons.1 hx with rfl | hx
        · exact o1
        · exact p2 x hx
      · rw [if_neg c1] at h
        exact absurd h c1
theorem PartK.fold_no (K : PartK rd s st by_ pre post) : ∀ (P : List X) (W : EV), (P.foldl st W).no = 0 → W.no = 0 ∧ (∀ x ∈ P, pre x) ∧ P.foldl st W = ⟨0, (if P.length = 0 then W else ⟨0, W.at_, W.L⟩ : EV).at_, W.L ++ P.flatMap by_⟩ := by
  intro P
  induction P with
  | nil =>
    intro W h
    have h0 : W.no = 0 := h
    refine ⟨h0, (fun x hx => by cases hx), ?_⟩
    obtain ⟨a, b, c⟩ := W
    simp only at h0
    subst h0
    simp
  | cons x P ih =>
    intro W h
    rw [List.foldl_cons] at h ⊢
    obtain ⟨h1, h2, h3⟩ := ih _ h
    obtain ⟨k1, k2, k3⟩ := K.st_no W x h1
    refine ⟨k1, fun y hy => ?_, ?_⟩
    · rcases List.mem_cons.1 hy with rfl | hy
      · exact k2
      · exact h2 y hy
    · rw [h3, k3]
      simp
theorem PartK.fold_of (K : PartK rd s st by_ pre post) : ∀ (P : List X) (W : EV), W.no = 0 → (∀ x ∈ P, pre x) → P.foldl st W = ⟨0, W.at_, W.L ++ P.flatMap by_⟩ := by
  intro P
  induction P with
  | nil =>
    intro W h _
    obtain ⟨a, b, c⟩ := W
    simp only at h
    subst h
    simp
  | cons x P ih =>
    intro W h hp
    rw [List.foldl_cons, K.st_of W x h (hp x (List.mem_cons_self ..)), ih _ rfl (fun y hy => hp y (List.mem_cons_of_mem _ hy))]
    simp
end
/-- A text as a part. -/
def rdT (s : ByteArray) (R : RV) : Er × ByteArray × RV := if (rText s R).2.no = 0 then (e00, (rText s R).1, (rText s R).2) else (⟨(rText s R).2.no, 129, (rText s R).2.ea⟩, ⟨#[]⟩, (rText s R).2)
def stT (W : EV) (t : ByteArray) : EV := stepW W (textE t)
def preT (t : ByteArray) : Prop := (checkOf t).1 = 0
def postT (s : ByteArray) (t : ByteArray) : Prop := (checkOf t).1 = 0 ∧ t.size ≤ s.size
def byT8 (t : ByteArray) : List UInt8 := be 2 t.size ++ t.data.toList
theorem partT (s : ByteArray) : PartK (rdT s) s stT byT8 preT (postT s) where
  st_no W x h := by
    obtain ⟨h0, ht, hs⟩ := stepW_text_no h
    exact ⟨h0, ht, hs⟩
  st_of W x h hp := stepW_text h hp
  pos x := by
    unfold byT8
    rw [List.length_append, be_len]
    omega
  rd_of R x l hc hp h := by
    obtain ⟨R', e, _, hc'⟩ := hc.text hp
    refine ⟨R', ?_, hc'⟩
    unfold rdT
    rw [e]
    simp only
    rw [if_pos hc'.no]
  rd_no R x l hc hp := by
    obtain ⟨R', e, _, hc'⟩ := hc.text hp.1
    unfold rdT
    rw [e]
    simp only
    rw [if_pos hc'.no]
    rfl
  of_rd R h0 hp h := by
    unfold rdT at h ⊢
    by_cases c : (rText s R).2.no = 0
    · rw [if_pos c]
      obtain ⟨k1, k2, k3⟩ := rText_sz h0 (by omega) c
      exact ⟨⟨k1, k2⟩, c, k3⟩
    · rw [if_neg c] at h
      exact absurd h c
  pre_of x h := h.1
/-- A code as a part. -/
def rdC (k : Int) (s : ByteArray) (R : RV) : Er × Int × RV := if allowedB k (rNum s 1 R).1 = true then (e00, ((rNum s 1 R).1 : Int), (rNum s 1 R).2) else (⟨2, 129, R.p⟩, 0, (rNum s 1 R).2)
def stC (W : EV) (c : Int) : EV := stepW W (numE 1 c)
def preC (c : Int) : Prop := ∃ m : Nat, c = m ∧ m < 256
def postC (k : Int) (c : Int) : Prop := allowedB k c = true ∧ ∃ m : Nat, c = m ∧ m < 256
def byC8 (c : Int) : List UInt8 := be 1 c.toNat
theorem partC (k : Int) (s : ByteArray) : PartK (rdC k s) s stC byC8 preC (postC k) where
  st_no W x h := by
    obtain ⟨h0, m, rfl, hm2, hs⟩ := stepW_num_no h
    exact ⟨h0, ⟨m, rfl, by simpa using hm2⟩, by unfold byC8; rw [Int.toNat_natCast]; exact hs⟩
  st_of W x h hp := by
    obtain ⟨m, rfl, hm⟩ := hp
    unfold byC8
    rw [Int.toNat_natCast]
    exact stepW_num h (by omega)
  pos x := by
    unfold byC8
    rw [be_len]
    decide
  rd_of R x l hc hp h := by
    obtain ⟨m, rfl, hm⟩ := hp
    unfold byC8 at hc
    rw [Int.toNat_natCast] at hc
    obtain ⟨R', e, _, hc'⟩ := hc.num (k := 1) (n := m) (by omega)
    refine ⟨R', ?_, hc'⟩
    unfold rdC at h ⊢
    rw [e] at h ⊢
    simp only at h ⊢
    by_cases c : allowedB k m = true
    · rw [if_pos c]
    · rw [if_neg c] at h
      exact absurd (show (2 : Nat) = 0 from h) (by decide)
  rd_no R x l hc hp := by
    obtain ⟨ha, m, rfl, hm⟩ := hp
    unfold byC8 at hc
    rw [Int.toNat_natCast] at hc
    obtain ⟨R', e, _, hc'⟩ := hc.num (k := 1) (n := m) (by omega)
    unfold rdC
    rw [e]
    simp only
    rw [if_pos ha]
    rfl
  of_rd R h0 hp h := by
    unfold rdC at h ⊢
    by_cases c : allowedB k (rNum s 1 R).1 = true
    · rw [if_pos c]
      have h1 := rNum_left (s := s) h0 hp
      have h2 := (rNum_is (n := 1) h0 (by rw [h1])).1
      refine ⟨⟨c, _, rfl, by omega⟩, by simp only; rw [h1], by simp only; rw [h1]; show R.p + 1 ≤ _; omega⟩
    · rw [if_neg c] at h
      exact absurd (show (2 : Nat) = 0 from h) (by decide)
  pre_of x h := h.2
/-- The head of a packet with parts. -/
structure TH where
  e : Er
  id : Nat
  L : PL
  R : RV
def thF (k : Int) (s : ByteArray) : TH :=
  if (rNum s 2 ⟨0, 0, 0⟩).2.no = 0 then
    if (rNum s 2 ⟨0, 0, 0⟩).1 = 0 then ⟨⟨3, 130, 0⟩, 0, [], (rNum s 2 ⟨0, 0, 0⟩).2⟩
    else if (readF k s (rNum s 2 ⟨0, 0, 0⟩).2).1.no = 0 then ⟨e00, (rNum s 2 ⟨0, 0, 0⟩).1, (readF k s (rNum s 2 ⟨0, 0, 0⟩).2).1.L, (readF k s (rNum s 2 ⟨0, 0, 0⟩).2).2⟩
    else ⟨⟨(readF k s (rNum s 2 ⟨0, 0, 0⟩).2).1.no, (readF k s (rNum s 2 ⟨0, 0, 0⟩).2).1.r, (readF k s (rNum s 2 ⟨0, 0, 0⟩).2).1.at_⟩, 0, [], (readF k s (rNum s 2 ⟨0, 0, 0⟩).2).2⟩
  else ⟨⟨(rNum s 2 ⟨0, 0, 0⟩).2.no, 129, (rNum s 2 ⟨0, 0, 0⟩).2.ea⟩, 0, [], (rNum s 2 ⟨0, 0, 0⟩).2⟩
/-- A packet with parts. -/
def pkS (k id : Int) (L : PL) (subs : List SV) (filters : List ByteArray) (codes : List Int) : Pk := ⟨k, id, 0, L, false, 0, ⟨#[]⟩, false, ⟨#[]⟩, ⟨#[]⟩, 0, false, [], false, ⟨#[]⟩, false, ⟨#[]⟩, false, ⟨#[]⟩, ⟨#[]⟩, 0, false, false, subs, filters, codes⟩
structure ThOk (k : Int) (s : ByteArray) : Prop where
  id : (thF k s).id ≠ 0 ∧ (thF k s).id < 65536
  no : (thF k s).R.no = 0
  le : (thF k s).R.p ≤ s.size
  ok : RdOk k s (thF k s).L
theorem th_ok {k : Int} {s : ByteArray} (h : (thF k s).e.no = 0) : ThOk k s := by
  have l1 : (rNum s 2 ⟨0, 0, 0⟩).2.p ≤ s.size := (rTake_le (Nat.zero_le _)).1
  by_cases c1 : (rNum s 2 ⟨0, 0, 0⟩).2.no = 0
  · by_cases c2 : (rNum s 2 ⟨0, 0, 0⟩).1 = 0
    · unfold thF at h
      rw [if_pos c1, if_pos c2] at h
      exact absurd (show (3 : Nat) = 0 from h) (by decide)
    · by_cases c3 : (readF k s (rNum s 2 ⟨0, 0, 0⟩).2).1.no = 0
      · have e : thF k s = ⟨e00, (rNum s 2 ⟨0, 0, 0⟩).1, (readF k s (rNum s 2 ⟨0, 0, 0⟩).2).1.L, (readF k s (rNum s 2 ⟨0, 0, 0⟩).2).2⟩ := by
          unfold thF
          rw [if_pos c1, if_neg c2, if_pos c3]
        constructor <;> rw [e] <;> simp only
        · exact ⟨c2, (rNum_is (n := 2) rfl c1).1⟩
        · exact readF_no c3
        · have h := (rTake_le (n := (rVar s (rNum s 2 ⟨0, 0, 0⟩).2).1) (rVar_le l1)).1
          unfold readF
          split <;> exact h
        · exact rd_ok c3
      · unfold thF at h
        rw [if_pos c1, if_neg c2, if_neg c3] at h
        exact absurd h c3
  · unfold thF at h
    rw [if_neg c1] at h
    exact absurd h c1
theorem th_bad {k : Int} {s : ByteArray} (h : (thF k s).e.no ≠ 0) : (thF k s).id = 0 ∧ (thF k s).L = [] := by
  unfold thF at h ⊢
  by_cases c1 : (rNum s 2 ⟨0, 0, 0⟩).2.no = 0
  · rw [if_pos c1] at h ⊢
    by_cases c2 : (rNum s 2 ⟨0, 0, 0⟩).1 = 0
    · rw [if_pos c2]
      exact ⟨rfl, rfl⟩
    · rw [if_neg c2] at h ⊢
      by_cases c3 : (readF k s (rNum s 2 ⟨0, 0, 0⟩).2).1.no = 0
      · rw [if_pos c3] at h
        exact absurd rfl h
      · rw [if_neg c3]
        exact ⟨rfl, rfl⟩
  · rw [if_neg c1]
    exact ⟨rfl, rfl⟩
/-- What was written ahead is read. -/
theorem th_wr {k : Int} {s : ByteArray} {id : Nat} {L : PL} {l : List UInt8} (hid : id < 65536) (he : (encR k L).no = 0) (hsz : ∀ q ∈ L, q.s.size < 65536 ∧ q.v.size < 65536) (hl : (wrAll (actsL6 L)).L.length ≤ 268435455) (hs : s.data.toList = be 2 id ++ ((encR k L).L ++ l)) :
    if id = 0 then (thF k s).e.no = 3 else ∃ R, thF k s = ⟨e00, id, plL L, R⟩ ∧ Cur s R l := by
  have c0 := Cur.start hs
  obtain ⟨R1, e1, _, c1⟩ := c0.num (k := 2) (n := id) (by omega)
  obtain ⟨R2, e2, _, c2⟩ := c1.props he hsz hl
  split
  · rename_i h0
    unfold thF
    rw [e1]
    simp only
    rw [if_pos c1.no, if_pos h0]
  · rename_i h0
    refine ⟨R2, ?_, c2⟩
    unfold thF
    rw [e1]
    simp only
    rw [if_pos c1.no, if_neg h0, e2]
    simp only
    rw [if_pos trivial]
/-- What PutHead writes. -/
def phW (p : Pk) : EV := stepW (stepW w0 (numE 2 p.id)) ⟨0, 0, (encR p.kind p.props).L⟩
theorem phW_no {p : Pk} (h : (phW p).no = 0) : ∃ m : Nat, p.id = m ∧ m < 65536 ∧ (phW p).L = be 2 m ++ (encR p.kind p.props).L := by
  unfold phW at h ⊢
  obtain ⟨h1, h2⟩ := stepW_any_no h
  obtain ⟨_, m, hm, hm2, h3⟩ := stepW_num_no h1
  exact ⟨m, hm, by omega, by rw [h2, h3]; simp [w0]⟩
theorem phW_of {k : Int} {id : Nat} {L : PL} {a : List SV} {b : List ByteArray} {c : List Int} (h : id < 65536) : phW (pkS k id L a b c) = ⟨0, 0, be 2 id ++ (encR k L).L⟩ := by
  unfold phW
  show stepW (stepW w0 (numE 2 (id : Int))) ⟨0, 0, (encR k L).L⟩ = _
  rw [stepW_num (W := w0) (k := 2) (m := id) rfl (by omega), stepW_raw rfl]
  simp [w0]
end Go.Proofs.YtinhecggmakbnaaGreatDoor
