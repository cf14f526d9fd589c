/- What is proved here, on plain lists: the bytes of a field, what a writer holds behind each field, what a reader reads; what is written is read as it was, and, cut anywhere, it is too short. Conditions: those that each theorem names. -/
import Derived.Test.YtnolnhpmpjgnaaaGreatDoorVtVb
import Derived.Test.YtnolnhpmpjgnaaaGreatDoorMath03
namespace Go.Proofs.YtnolnhpmpjgnaaaGreatDoor

theorem snoc_ind {α : Type} {p : List α → Prop} (nil : p []) (snoc : ∀ l a, p l → p (l ++ [a])) (l : List α) : p l := by
  have h : ∀ m : List α, p m.reverse := by
    intro m
    induction m with
    | nil => exact nil
    | cons a m ih => rw [List.reverse_cons]; exact snoc _ _ ih
  have := h l.reverse
  rwa [List.reverse_reverse] at this
/-- The bytes of a number, so many. -/
def be : Nat → Nat → List UInt8
  | 0, _ => []
  | k + 1, n => be k (n / 256) ++ [UInt8.ofNat (n % 256)]
theorem be_len : ∀ k n, (be k n).length = k
  | 0, _ => rfl
  | k + 1, n => by rw [be, List.length_append, be_len k]; rfl
theorem be_head (k : Nat) : ∀ n, be (k + 1) n = UInt8.ofNat (n / 256 ^ k % 256) :: be k n := by
  induction k with
  | zero => intro n; simp [be]
  | succ k ih =>
    intro n
    rw [be, ih, be, Nat.div_div_eq_div_mul, Nat.pow_succ, Nat.mul_comm 256]
    rfl
/-- The number that bytes tell. -/
def bvF (acc : Nat) (l : List UInt8) : Nat := l.foldl (fun n b => n * 256 + b.toNat) acc
def bv (l : List UInt8) : Nat := bvF 0 l
theorem bvF_app (acc : Nat) (l m : List UInt8) : bvF acc (l ++ m) = bvF (bvF acc l) m := by unfold bvF; rw [List.foldl_append]
theorem bv_snoc (l : List UInt8) (b : UInt8) : bv (l ++ [b]) = bv l * 256 + b.toNat := by unfold bv; rw [bvF_app]; rfl
theorem bv_be (k : Nat) : ∀ n, n < 256 ^ k → bv (be k n) = n := by
  induction k with
  | zero => intro n h; simp at h; subst h; rfl
  | succ k ih =>
    intro n h
    rw [be, bv_snoc, ih _ (by rw [Nat.pow_succ] at h; omega)]
    have : (UInt8.ofNat (n % 256)).toNat = n % 256 := by simp [UInt8.toNat_ofNat']
    rw [this]
    omega
theorem bv_lt : ∀ (l : List UInt8), bv l < 256 ^ l.length := by
  intro l
  induction l using snoc_ind with
  | nil => decide
  | snoc l b ih =>
    rw [bv_snoc, List.length_append, List.length_singleton, Nat.pow_succ]
    have := b.toNat_lt
    omega

/-- A field: its kind, its number, its bytes. -/
structure FV where
  k : Int
  n : Int
  s : ByteArray
/-- Its bytes, or its error's number, and where that is. -/
structure EV where
  no : Nat
  at_ : Nat
  L : List UInt8
def numE (k : Nat) (n : Int) : EV := if n < 0 ∨ ((256 ^ k : Nat) : Int) ≤ n then ⟨4, 0, []⟩ else ⟨0, 0, be k n.toNat⟩
def varE (n : Int) : EV := if n < 0 ∨ 268435455 < n then ⟨4, 0, []⟩ else ⟨0, 0, vb n.toNat⟩
def binE (s : ByteArray) : EV := ⟨0, 0, be 2 s.size ++ s.data.toList⟩
def textE (s : ByteArray) : EV := if (checkOf s).1 = 0 then binE s else ⟨(checkOf s).1, 2 + (checkOf s).2, []⟩
def encA (a : FV) : EV :=
  if a.k = 1 then numE 1 a.n else if a.k = 2 then numE 2 a.n else if a.k = 4 then numE 4 a.n
  else if a.k = 5 then varE a.n else if a.k = 6 then textE a.s else if a.k = 7 then binE a.s
  else if a.k = 8 then ⟨0, 0, a.s.data.toList⟩ else ⟨0, 0, []⟩
/-- What a writer holds behind a field. -/
def stepW (W e : EV) : EV := if W.no = 0 then if e.no = 0 then ⟨0, W.at_, W.L ++ e.L⟩ else ⟨e.no, W.L.length + e.at_, []⟩ else W
def w0 : EV := ⟨0, 0, []⟩
theorem stepW_stuck {W e : EV} (h : W.no ≠ 0) : stepW W e = W := by unfold stepW; rw [if_neg h]
theorem stepW_ok {W e : EV} (h : W.no = 0) (he : e.no = 0) : stepW W e = ⟨0, W.at_, W.L ++ e.L⟩ := by unfold stepW; rw [if_pos h, if_pos he]
theorem stepW_bad {W e : EV} (h : W.no = 0) (he : e.no ≠ 0) : stepW W e = ⟨e.no, W.L.length + e.at_, []⟩ := by unfold stepW; rw [if_pos h, if_neg he]
def wrAll (A : List FV) : EV := A.foldl (fun W a => stepW W (encA a)) w0
theorem wrAll_snoc (A : List FV) (a : FV) : wrAll (A ++ [a]) = stepW (wrAll A) (encA a) := by unfold wrAll; rw [List.foldl_append]; rfl
theorem numE_len (k : Nat) (n : Int) : (numE k n).L.length ≤ k := by unfold numE; split <;> simp [be_len]
theorem varE_len (n : Int) : (varE n).L.length ≤ 4 := by
  unfold varE; split
  · simp
  · exact (vb_len _ (by omega)).2
theorem binE_len (s : ByteArray) : (binE s).L.length = 2 + s.size := by unfold binE; rw [List.length_append, be_len, bLen]
theorem textE_len (s : ByteArray) : (textE s).L.length ≤ 2 + s.size := by
  unfold textE; split
  · rw [binE_len]; exact Nat.le_refl _
  · simp
theorem encA_len (a : FV) : (encA a).L.length ≤ 4 + a.s.size := by
  unfold encA
  split
  · exact Nat.le_trans (numE_len _ _) (by omega)
  · split
    · exact Nat.le_trans (numE_len _ _) (by omega)
    · split
      · exact Nat.le_trans (numE_len _ _) (by omega)
      · split
        · exact Nat.le_trans (varE_len _) (by omega)
        · split
          · exact Nat.le_trans (textE_len _) (by omega)
          · split
            · rw [binE_len]; omega
            · split
              · simp only; rw [bLen]; omega
              · simp
theorem encA_no (a : FV) : (encA a).no ≤ 4 := by
  unfold encA numE varE textE binE
  have := check_no a.s
  repeat' split
  all_goals simp only
  all_goals omega
theorem wr_no (A : List FV) : (wrAll A).no ≤ 4 := by
  induction A using snoc_ind with
  | nil => exact Nat.zero_le _
  | snoc A a ih =>
    rw [wrAll_snoc]
    have := encA_no a
    unfold stepW
    split
    · split
      · exact Nat.zero_le _
      · exact this
    · exact ih
def catE (A : List FV) : List UInt8 := (A.map fun a => (encA a).L).flatten
theorem catE_snoc (A : List FV) (a : FV) : catE (A ++ [a]) = catE A ++ (encA a).L := by unfold catE; simp
theorem catE_app (A A' : List FV) : catE (A ++ A') = catE A ++ catE A' := by unfold catE; simp
/-- Behind fields without an error: all bytes. -/
theorem wr_ok (A : List FV) (h : (wrAll A).no = 0) : (wrAll A).L = catE A ∧ ∀ a ∈ A, (encA a).no = 0 := by
  induction A using snoc_ind with
  | nil => exact ⟨rfl, fun a ha => by cases ha⟩
  | snoc A a ih =>
    rw [wrAll_snoc] at h ⊢
    by_cases h0 : (wrAll A).no = 0
    · obtain ⟨h1, h2⟩ := ih h0
      by_cases he : (encA a).no = 0
      · rw [stepW_ok h0 he, catE_snoc, h1]
        refine ⟨rfl, fun b hb => ?_⟩
        rcases List.mem_append.1 hb with hb | hb
        · exact h2 b hb
        · rw [List.mem_singleton] at hb; subst hb; exact he
      · rw [stepW_bad h0 he] at h
        exact absurd h he
    · rw [stepW_stuck h0] at h
      exact absurd h h0
theorem wr_len (A : List FV) (B : Nat) (hB : ∀ a ∈ A, a.s.size ≤ B) : (wrAll A).L.length ≤ A.length * (4 + B) := by
  induction A using snoc_ind with
  | nil => exact Nat.zero_le _
  | snoc A a ih =>
    have i1 := ih fun b hb => hB b (List.mem_append_left _ hb)
    have h2 := encA_len a
    have h3 := hB a (by simp)
    rw [wrAll_snoc]
    unfold stepW
    rw [List.length_append, List.length_singleton, Nat.add_mul, Nat.one_mul]
    split
    · split
      · simp only [List.length_append]; omega
      · simp only [List.length_nil]; omega
    · omega

/-- A reader: where it is, its error's number, and where that is. -/
structure RV where
  p : Nat
  no : Nat
  ea : Nat
def rTake (s : ByteArray) (n : Nat) (R : RV) : ByteArray × RV :=
  if R.no = 0 then if s.size < R.p + n then (⟨#[]⟩, ⟨R.p, 1, s.size⟩) else (s.extract R.p (R.p + n), ⟨R.p + n, 0, R.ea⟩) else (⟨#[]⟩, R)
def rNum (s : ByteArray) (k : Nat) (R : RV) : Nat × RV := (bv (rTake s k R).1.data.toList, (rTake s k R).2)
def rVarOf (R : RV) (f : Nat × Nat × Nat × Nat) : Nat × RV := if f.2.2.1 = 0 then (f.1, ⟨R.p + f.2.1, 0, R.ea⟩) else (0, ⟨R.p, f.2.2.1, R.p + f.2.2.2⟩)
def rVar (s : ByteArray) (R : RV) : Nat × RV := if R.no = 0 then rVarOf R (vt (s.extract R.p s.size) 4 0 0 1) else (0, R)
def rBin (s : ByteArray) (R : RV) : ByteArray × RV :=
  ((rTake s (rNum s 2 R).1 (rNum s 2 R).2).1, if (rTake s (rNum s 2 R).1 (rNum s 2 R).2).2.no = 0 then (rTake s (rNum s 2 R).1 (rNum s 2 R).2).2 else ⟨R.p, (rTake s (rNum s 2 R).1 (rNum s 2 R).2).2.no, (rTake s (rNum s 2 R).1 (rNum s 2 R).2).2.ea⟩)
def rText (s : ByteArray) (R : RV) : ByteArray × RV :=
  if (checkOf (rBin s R).1).1 = 0 then rBin s R else (⟨#[]⟩, ⟨R.p, (checkOf (rBin s R).1).1, R.p + 2 + (checkOf (rBin s R).1).2⟩)
/-- What is read of a kind. -/
def rdA (k : Int) (s : ByteArray) (R : RV) : Nat × ByteArray × RV :=
  if k = 1 then ((rNum s 1 R).1, ⟨#[]⟩, (rNum s 1 R).2) else if k = 2 then ((rNum s 2 R).1, ⟨#[]⟩, (rNum s 2 R).2) else if k = 4 then ((rNum s 4 R).1, ⟨#[]⟩, (rNum s 4 R).2)
  else if k = 5 then ((rVar s R).1, ⟨#[]⟩, (rVar s R).2) else if k = 6 then (0, (rText s R).1, (rText s R).2) else (0, (rBin s R).1, (rBin s R).2)

theorem check_empty : checkOf ⟨#[]⟩ = (0, 0) := by
  refine check_ok (by decide) ?_
  have h := cut_le ⟨#[]⟩
  have : (⟨#[]⟩ : ByteArray).size = 0 := rfl
  omega
theorem rTake_stuck {s : ByteArray} {n : Nat} {R : RV} (h : R.no ≠ 0) : rTake s n R = (⟨#[]⟩, R) := by unfold rTake; rw [if_neg h]
theorem rNum_stuck {s : ByteArray} {n : Nat} {R : RV} (h : R.no ≠ 0) : rNum s n R = (0, R) := by unfold rNum; rw [rTake_stuck h]; rfl
theorem rBin_stuck {s : ByteArray} {R : RV} (h : R.no ≠ 0) : rBin s R = (⟨#[]⟩, R) := by
  unfold rBin; rw [rNum_stuck h]; simp only; rw [rTake_stuck h]; simp only; rw [if_neg h]
theorem rText_stuck {s : ByteArray} {R : RV} (h : R.no ≠ 0) : rText s R = (⟨#[]⟩, R) := by
  unfold rText; rw [rBin_stuck h]; simp only; rw [check_empty]; rfl
/-- Behind an error nothing is read. -/
theorem rd_stuck (k : Int) {s : ByteArray} {R : RV} (h : R.no ≠ 0) : (rdA k s R).2.2 = R := by
  unfold rdA
  rw [rNum_stuck h, rNum_stuck h, rNum_stuck h, rText_stuck h, rBin_stuck h]
  unfold rVar
  rw [if_neg h]
  repeat' split
  all_goals rfl

theorem bsize (l : List UInt8) : (⟨l.toArray⟩ : ByteArray).size = l.length := by simp [ByteArray.size]
theorem slen {s : ByteArray} {l : List UInt8} (h : s.data.toList = l) : s.size = l.length := by rw [← bLen, h]
theorem ext_list (s : ByteArray) (a b : Nat) : (s.extract a b).data.toList = (s.data.toList.drop a).take (b - a) := by simp [ByteArray.data_extract]
theorem ba_eq {s t : ByteArray} (h : s.data.toList = t.data.toList) : s = t := ByteArray.ext (Array.toList_inj.mp h)
/-- What stands there is taken. -/
theorem rTake_ok {s : ByteArray} {pre x post : List UInt8} (hs : s.data.toList = pre ++ (x ++ post)) (ea : Nat) : rTake s x.length ⟨pre.length, 0, ea⟩ = (⟨x.toArray⟩, ⟨pre.length + x.length, 0, ea⟩) := by
  have hl := slen hs
  simp only [List.length_append] at hl
  unfold rTake
  rw [if_pos rfl, if_neg (by simp only; omega)]
  have : s.extract pre.length (pre.length + x.length) = ⟨x.toArray⟩ := by
    apply ba_eq
    rw [ext_list, hs]
    simp
  simp only [this]
theorem rTake_short {s : ByteArray} {pre x : List UInt8} (hs : s.data.toList = pre ++ x) {n : Nat} (hn : x.length < n) (ea : Nat) : rTake s n ⟨pre.length, 0, ea⟩ = (⟨#[]⟩, ⟨pre.length, 1, s.size⟩) := by
  have hl := slen hs
  simp only [List.length_append] at hl
  unfold rTake
  rw [if_pos rfl, if_pos (by simp only; omega)]
theorem rNum_ok {s : ByteArray} {pre post : List UInt8} {k n : Nat} (hn : n < 256 ^ k) (hs : s.data.toList = pre ++ (be k n ++ post)) (ea : Nat) : rNum s k ⟨pre.length, 0, ea⟩ = (n, ⟨pre.length + k, 0, ea⟩) := by
  have h := rTake_ok hs ea
  rw [be_len] at h
  unfold rNum
  rw [h]
  simp only [bv_be k n hn]
theorem rNum_short {s : ByteArray} {pre x : List UInt8} (hs : s.data.toList = pre ++ x) {k : Nat} (hn : x.length < k) (ea : Nat) : rNum s k ⟨pre.length, 0, ea⟩ = (0, ⟨pre.length, 1, s.size⟩) := by
  unfold rNum
  rw [rTake_short hs hn]
  rfl
theorem tail_eq {s : ByteArray} {pre x : List UInt8} (hs : s.data.toList = pre ++ x) : s.extract pre.length s.size = ⟨x.toArray⟩ := by
  apply ba_eq
  have hl := slen hs
  simp only [List.length_append] at hl
  rw [ext_list, hs, hl]
  simp
theorem rVar_ok {s : ByteArray} {pre post : List UInt8} {n : Nat} (hn : n ≤ 268435455) (hs : s.data.toList = pre ++ (vb n ++ post)) (ea : Nat) : rVar s ⟨pre.length, 0, ea⟩ = (n, ⟨pre.length + (vb n).length, 0, ea⟩) := by
  unfold rVar
  rw [if_pos rfl]
  simp only
  rw [tail_eq hs, vt_vb n hn]
  rfl
theorem vt_part (f : Nat) : ∀ (pre : List UInt8) (m acc b j : Nat), 0 < f → j < (vb m).length → m < 128 ^ f →
    (vt ⟨(pre ++ (vb m).take j).toArray⟩ f pre.length acc b).2.2.1 = 1 := by
  induction f with
  | zero => exact fun _ _ _ _ _ h => absurd h (by omega)
  | succ f ih =>
    intro pre m acc b j _ hj hm
    rcases Nat.eq_zero_or_pos j with h0 | h0
    · subst h0
      rw [List.take_zero, List.append_nil, vt_short (by rw [bsize]; omega)]
    · by_cases hs : m < 128
      · rw [vb_small hs] at hj
        simp at hj
        omega
      · rw [vb_big hs] at hj ⊢
        obtain ⟨j, rfl⟩ : ∃ i, j = i + 1 := ⟨j - 1, by omega⟩
        rw [List.take_succ_cons]
        have hlt : pre.length < (⟨(pre ++ (UInt8.ofNat (m % 128 + 128) :: (vb (m / 128)).take j)).toArray⟩ : ByteArray).size := by rw [bsize]; simp
        have hc := at_pre pre ((vb (m / 128)).take j) (UInt8.ofNat (m % 128 + 128)) hlt
        have hn : (UInt8.ofNat (m % 128 + 128)).toNat = m % 128 + 128 := by simp [UInt8.toNat_ofNat']; omega
        rw [vt_more hlt (by rw [hc, hn]; omega), hc, hn]
        have e : pre ++ (UInt8.ofNat (m % 128 + 128) :: (vb (m / 128)).take j) = (pre ++ [UInt8.ofNat (m % 128 + 128)]) ++ (vb (m / 128)).take j := by simp
        have e2 : pre.length + 1 = (pre ++ [UInt8.ofNat (m % 128 + 128)]).length := by simp
        rw [e, e2]
        have hf : 0 < f := by
          rcases Nat.eq_zero_or_pos f with hz | hz
          · subst hz; simp at hm; omega
          · exact hz
        exact ih _ _ _ _ _ hf (by simpa using hj) (by rw [Nat.pow_succ] at hm; omega)
theorem rVar_part {s : ByteArray} {pre : List UInt8} {n j : Nat} (hn : n ≤ 268435455) (hj : j < (vb n).length) (hs : s.data.toList = pre ++ (vb n).take j) (ea : Nat) : (rVar s ⟨pre.length, 0, ea⟩).2.no = 1 := by
  unfold rVar
  rw [if_pos rfl]
  simp only
  rw [tail_eq hs]
  have h := vt_part 4 [] n 0 1 j (by omega) hj (by omega)
  rw [List.nil_append, List.length_nil] at h
  unfold rVarOf
  rw [if_neg (by rw [h]; omega)]
  exact h
theorem rBin_ok {s x : ByteArray} {pre post : List UInt8} (hx : x.size < 65536) (hs : s.data.toList = pre ++ ((be 2 x.size ++ x.data.toList) ++ post)) (ea : Nat) :
    rBin s ⟨pre.length, 0, ea⟩ = (x, ⟨pre.length + (2 + x.size), 0, ea⟩) := by
  have h1 : rNum s 2 ⟨pre.length, 0, ea⟩ = (x.size, ⟨pre.length + 2, 0, ea⟩) := rNum_ok (by omega) (post := x.data.toList ++ post) (by rw [hs]; simp) ea
  have h2 := rTake_ok (s := s) (pre := pre ++ be 2 x.size) (x := x.data.toList) (post := post) (by rw [hs]; simp) ea
  rw [List.length_append, be_len, bLen] at h2
  have hxx : (⟨x.data.toList.toArray⟩ : ByteArray) = x := ba_eq (by simp)
  unfold rBin
  rw [h1]
  simp only
  rw [h2, hxx]
  simp only [if_pos, Nat.add_assoc]
theorem rBin_part {s x : ByteArray} {pre : List UInt8} {j : Nat} (hx : x.size < 65536) (hj : j < 2 + x.size) (hs : s.data.toList = pre ++ (be 2 x.size ++ x.data.toList).take j) (ea : Nat) :
    ∃ R, rBin s ⟨pre.length, 0, ea⟩ = (⟨#[]⟩, R) ∧ R.no = 1 := by
  by_cases h2 : j < 2
  · have h1 : rNum s 2 ⟨pre.length, 0, ea⟩ = (0, ⟨pre.length, 1, s.size⟩) := rNum_short hs (by rw [List.length_take, List.length_append, be_len]; omega) ea
    unfold rBin
    rw [h1]
    simp only
    rw [rTake_stuck (by simp)]
    exact ⟨_, rfl, rfl⟩
  · obtain ⟨i, rfl⟩ : ∃ i, j = 2 + i := ⟨j - 2, by omega⟩
    have e : (be 2 x.size ++ x.data.toList).take (2 + i) = be 2 x.size ++ x.data.toList.take i := by
      have := List.take_length_add_append (l₁ := be 2 x.size) (l₂ := x.data.toList) i
      rwa [be_len] at this
    rw [e] at hs
    have h1 : rNum s 2 ⟨pre.length, 0, ea⟩ = (x.size, ⟨pre.length + 2, 0, ea⟩) := rNum_ok (by omega) hs ea
    have h3 := rTake_short (s := s) (pre := pre ++ be 2 x.size) (x := x.data.toList.take i) (n := x.size) (by rw [hs]; simp) (by rw [List.length_take, bLen]; omega) ea
    rw [List.length_append, be_len] at h3
    unfold rBin
    rw [h1]
    simp only
    rw [h3]
    exact ⟨_, rfl, rfl⟩
theorem rText_ok {s x : ByteArray} {pre post : List UInt8} (hc : (checkOf x).1 = 0) (hs : s.data.toList = pre ++ ((be 2 x.size ++ x.data.toList) ++ post)) (ea : Nat) :
    rText s ⟨pre.length, 0, ea⟩ = (x, ⟨pre.length + (2 + x.size), 0, ea⟩) := by
  have hx := (check_zero hc).1
  unfold rText
  rw [rBin_ok (by omega) hs ea]
  simp only
  rw [if_pos hc]
theorem rText_part {s x : ByteArray} {pre : List UInt8} {j : Nat} (hx : x.size < 65536) (hj : j < 2 + x.size) (hs : s.data.toList = pre ++ (be 2 x.size ++ x.data.toList).take j) (ea : Nat) :
    (rText s ⟨pre.length, 0, ea⟩).2.no = 1 := by
  obtain ⟨R, h, hR⟩ := rBin_part hx hj hs ea
  unfold rText
  rw [h]
  simp only
  rw [check_empty]
  exact hR

/-- A field that may be written, and is read by its kind. -/
structure OkA (a : FV) : Prop where
  k : a.k = 1 ∨ a.k = 2 ∨ a.k = 4 ∨ a.k = 5 ∨ a.k = 6 ∨ a.k = 7
  no : (encA a).no = 0
  s : a.s.size < 65536
theorem numE_ok {k : Nat} {n : Int} (h : (numE k n).no = 0) : ∃ m : Nat, n = m ∧ m < 256 ^ k ∧ (numE k n).L = be k m := by
  unfold numE at h ⊢
  split at h
  · cases h
  · rename_i hn
    rw [if_neg hn]
    exact ⟨n.toNat, by omega, by omega, rfl⟩
theorem varE_ok {n : Int} (h : (varE n).no = 0) : ∃ m : Nat, n = m ∧ m ≤ 268435455 ∧ (varE n).L = vb m := by
  unfold varE at h ⊢
  split at h
  · cases h
  · rename_i hn
    rw [if_neg hn]
    exact ⟨n.toNat, by omega, by omega, rfl⟩
theorem textE_ok {x : ByteArray} (h : (textE x).no = 0) : (checkOf x).1 = 0 ∧ (textE x).L = be 2 x.size ++ x.data.toList := by
  unfold textE at h ⊢
  by_cases hc : (checkOf x).1 = 0
  · rw [if_pos hc]; exact ⟨hc, rfl⟩
  · rw [if_neg hc] at h; exact absurd h hc
/-- What was written is read as it was. -/
theorem rd_enc {a : FV} (ha : OkA a) {s : ByteArray} {pre post : List UInt8} (hs : s.data.toList = pre ++ ((encA a).L ++ post)) (ea : Nat) :
    ∃ N T, rdA a.k s ⟨pre.length, 0, ea⟩ = (N, T, ⟨pre.length + (encA a).L.length, 0, ea⟩) ∧ (a.k < 6 → (N : Int) = a.n) ∧ (5 < a.k → T = a.s) := by
  obtain ⟨k, n, x⟩ := a
  obtain ⟨hk, hno, hx⟩ := ha
  simp only at hk hx ⊢
  rcases hk with rfl | rfl | rfl | rfl | rfl | rfl
  · obtain ⟨m, rfl, hm, hL⟩ := numE_ok (k := 1) (n := n) hno
    have e : (encA ⟨1, m, x⟩).L = be 1 m := hL
    rw [e] at hs ⊢
    have := rNum_ok (k := 1) hm hs ea
    exact ⟨_, _, by rw [be_len]; unfold rdA; rw [if_pos rfl, this], fun _ => rfl, fun h => absurd h (by omega)⟩
  · obtain ⟨m, rfl, hm, hL⟩ := numE_ok (k := 2) (n := n) hno
    have e : (encA ⟨2, m, x⟩).L = be 2 m := hL
    rw [e] at hs ⊢
    have := rNum_ok (k := 2) hm hs ea
    exact ⟨_, _, by rw [be_len]; unfold rdA; rw [if_neg (by omega), if_pos rfl, this], fun _ => rfl, fun h => absurd h (by omega)⟩
  · obtain ⟨m, rfl, hm, hL⟩ := numE_ok (k := 4) (n := n) hno
    have e : (encA ⟨4, m, x⟩).L = be 4 m := hL
    rw [e] at hs ⊢
    have := rNum_ok (k := 4) hm hs ea
    exact ⟨_, _, by rw [be_len]; unfold rdA; rw [if_neg (by omega), if_neg (by omega), if_pos rfl, this], fun _ => rfl, fun h => absurd h (by omega)⟩
  · obtain ⟨m, rfl, hm, hL⟩ := varE_ok (n := n) hno
    have e : (encA ⟨5, m, x⟩).L = vb m := hL
    rw [e] at hs ⊢
    have := rVar_ok hm hs ea
    exact ⟨_, _, by unfold rdA; rw [if_neg (by omega), if_neg (by omega), if_neg (by omega), if_pos rfl, this], fun _ => rfl, fun h => absurd h (by omega)⟩
  · obtain ⟨hc, hL⟩ := textE_ok (x := x) hno
    have e : (encA ⟨6, n, x⟩).L = be 2 x.size ++ x.data.toList := hL
    rw [e] at hs ⊢
    have := rText_ok hc hs ea
    exact ⟨_, _, by rw [List.length_append, be_len, bLen]; unfold rdA; rw [if_neg (by omega), if_neg (by omega), if_neg (by omega), if_neg (by omega), if_pos rfl, this], fun h => absurd h (by omega), fun _ => rfl⟩
  · have e : (encA ⟨7, n, x⟩).L = be 2 x.size ++ x.data.toList := rfl
    rw [e] at hs ⊢
    have := rBin_ok hx hs ea
    exact ⟨_, _, by rw [List.length_append, be_len, bLen]; unfold rdA; rw [if_neg (by omega), if_neg (by omega), if_neg (by omega), if_neg (by omega), if_neg (by omega), this], fun h => absurd h (by omega), fun _ => rfl⟩
/-- Cut within, it is too short. -/
theorem rd_part {a : FV} (ha : OkA a) {s : ByteArray} {pre : List UInt8} {j : Nat} (hj : j < (encA a).L.length) (hs : s.data.toList = pre ++ (encA a).L.take j) (ea : Nat) : (rdA a.k s ⟨pre.length, 0, ea⟩).2.2.no = 1 := by
  obtain ⟨k, n, x⟩ := a
  obtain ⟨hk, hno, hx⟩ := ha
  simp only at hk hx ⊢
  rcases hk with rfl | rfl | rfl | rfl | rfl | rfl
  · obtain ⟨m, rfl, hm, hL⟩ := numE_ok (k := 1) (n := n) hno
    have e : (encA ⟨1, m, x⟩).L = be 1 m := hL
    rw [e] at hs hj
    rw [be_len] at hj
    have := rNum_short (k := 1) hs (by rw [List.length_take, be_len]; omega) ea
    unfold rdA; rw [if_pos rfl, this]
  · obtain ⟨m, rfl, hm, hL⟩ := numE_ok (k := 2) (n := n) hno
    have e : (encA ⟨2, m, x⟩).L = be 2 m := hL
    rw [e] at hs hj
    rw [be_len] at hj
    have := rNum_short (k := 2) hs (by rw [List.length_take, be_len]; omega) ea
    unfold rdA; rw [if_neg (by omega), if_pos rfl, this]
  · obtain ⟨m, rfl, hm, hL⟩ := numE_ok (k := 4) (n := n) hno
    have e : (encA ⟨4, m, x⟩).L = be 4 m := hL
    rw [e] at hs hj
    rw [be_len] at hj
    have := rNum_short (k := 4) hs (by rw [List.length_take, be_len]; omega) ea
    unfold rdA; rw [if_neg (by omega), if_neg (by omega), if_pos rfl, this]
  · obtain ⟨m, rfl, hm, hL⟩ := varE_ok (n := n) hno
    have e : (encA ⟨5, m, x⟩).L = vb m := hL
    rw [e] at hs hj
    unfold rdA; rw [if_neg (by omega), if_neg (by omega), if_neg (by omega), if_pos rfl]
    exact rVar_part hm hj hs ea
  · obtain ⟨hc, hL⟩ := textE_ok (x := x) hno
    have e : (encA ⟨6, n, x⟩).L = be 2 x.size ++ x.data.toList := hL
    rw [e] at hs hj
    rw [List.length_append, be_len, bLen] at hj
    unfold rdA; rw [if_neg (by omega), if_neg (by omega), if_neg (by omega), if_neg (by omega), if_pos rfl]
    exact rText_part hx hj hs ea
  · have e : (encA ⟨7, n, x⟩).L = be 2 x.size ++ x.data.toList := rfl
    rw [e] at hs hj
    rw [List.length_append, be_len, bLen] at hj
    unfold rdA; rw [if_neg (by omega), if_neg (by omega), if_neg (by omega), if_neg (by omega), if_neg (by omega)]
    obtain ⟨R, h, hR⟩ := rBin_part hx hj hs ea
    rw [h]
    exact hR
/-- Where a reader of bytes that are cut is behind some fields: at their end, or at an error. -/
def CutAt (c : Nat) (A : List FV) (R : RV) : Prop := R.no = 1 ∨ (R.no = 0 ∧ R.p = (catE A).length ∧ (catE A).length ≤ c)
theorem cut_step {A0 : List FV} {a : FV} {A1 : List FV} {c : Nat} {s : ByteArray} (ha : OkA a) (hs : s.data.toList = (catE (A0 ++ a :: A1)).take c) {R : RV} (h : CutAt c A0 R) : CutAt c (A0 ++ [a]) (rdA a.k s R).2.2 := by
  rcases h with h | ⟨h, hp, hc⟩
  · rw [rd_stuck a.k (by omega)]
    exact .inl h
  · obtain ⟨p, no, ea⟩ := R
    simp only at h hp
    subst h hp
    have e : catE (A0 ++ a :: A1) = catE A0 ++ ((encA a).L ++ catE A1) := by rw [catE_app]; unfold catE; simp
    rw [e, List.take_append, List.take_of_length_le hc] at hs
    by_cases hj : c - (catE A0).length < (encA a).L.length
    · rw [List.take_append_of_le_length (by omega)] at hs
      exact .inl (rd_part ha hj hs ea)
    · rw [List.take_append, List.take_of_length_le (by omega)] at hs
      obtain ⟨N, T, h1, _, _⟩ := rd_enc ha hs ea
      rw [h1, CutAt, catE_snoc, List.length_append]
      exact .inr ⟨rfl, rfl, by omega⟩
theorem cut_end {A : List FV} {c : Nat} {R : RV} (h : CutAt c A R) (hc : c < (catE A).length) : R.no = 1 := by
  rcases h with h | ⟨_, _, h⟩
  · exact h
  · omega
end Go.Proofs.YtnolnhpmpjgnaaaGreatDoor
