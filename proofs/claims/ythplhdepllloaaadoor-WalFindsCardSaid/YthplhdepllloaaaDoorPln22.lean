/- What is proved here, on plain lists: what a log's frames are, which records bytes begin with, and what behind a cut, and behind changed bits, is left of them. Conditions: records of few bytes. -/
import Derived.Test.YthplhdepllloaaaDoorFld04
import Derived.Test.YthplhdepllloaaaDoorCrcW20
namespace Go.Proofs.YthplhdepllloaaaDoor
set_option maxRecDepth 100000
theorem numE_nat {k n : Nat} (h : n < 256 ^ k) : numE k n = ⟨0, 0, be k n⟩ := by
  unfold numE
  rw [if_neg (by omega), Int.toNat_natCast]
theorem arr_list22 (l : List UInt8) : (⟨l.toArray⟩ : ByteArray).data.toList = l := rfl
theorem be_bv (l : List UInt8) : be l.length (bv l) = l := by
  induction l using snoc_ind with
  | nil => rfl
  | snoc l b ih =>
    rw [List.length_append, List.length_singleton, bv_snoc, be]
    have h1 : (bv l * 256 + b.toNat) / 256 = bv l := by have := b.toNat_lt; omega
    have h2 : (bv l * 256 + b.toNat) % 256 = b.toNat := by have := b.toNat_lt; omega
    rw [h1, h2, ih]
    congr 1
    simp
/-- The sum in a record's frame. -/
def crcW (b : ByteArray) : Nat := crcMore (crcMore 0 (be 4 b.size) : Nat) b.data.toList
theorem crcW_lt (b : ByteArray) : crcW b < 4294967296 := crcMore_lt _ _
theorem crcW_eq (b : ByteArray) : crcW b = crcMore 0 (be 4 b.size ++ b.data.toList) := (crc_more _ _).symm
/-- A record's frame. -/
def frW (b : ByteArray) : List UInt8 := be 4 b.size ++ (be 4 (crcW b) ++ b.data.toList)
theorem frW_len (b : ByteArray) : (frW b).length = 8 + b.size := by
  unfold frW
  rw [List.length_append, List.length_append, be_len, be_len, bLen]
  omega
def r00 : RV := ⟨0, 0, 0⟩
def nxN (t : ByteArray) : Nat × RV := rNum t 4 r00
def nxS (t : ByteArray) : Nat × RV := rNum t 4 (nxN t).2
def nxB (t : ByteArray) : ByteArray × RV := rTake t (nxN t).1 (nxS t).2
/-- The record that bytes begin with. -/
def nxW (t : ByteArray) : Option ByteArray := if 65536 < (nxN t).1 then none else if (nxB t).2.no = 0 ∧ (nxS t).1 = crcW (nxB t).1 then some (nxB t).1 else none
theorem take_no {t : ByteArray} {n : Nat} {R : RV} (h : (rTake t n R).2.no = 0) : R.no = 0 ∧ R.p + n ≤ t.size ∧ (rTake t n R).2 = ⟨R.p + n, 0, R.ea⟩ ∧ (R.p + n ≤ t.size → (rTake t n R).1.size = n) := by
  by_cases h0 : R.no = 0
  · unfold rTake at h ⊢
    rw [if_pos h0] at h ⊢
    by_cases h1 : t.size < R.p + n
    · rw [if_pos h1] at h
      exact absurd (show (1 : Nat) = 0 from h) (by decide)
    · rw [if_neg h1]
      exact ⟨h0, by omega, rfl, fun hh => by
        show (t.extract R.p (R.p + n)).size = n
        rw [← bLen, ext_list, List.length_take, List.length_drop, bLen]
        omega⟩
  · rw [rTake_stuck h0] at h
    exact absurd h h0
/-- Where a record was found. -/
theorem nxW_some {t b : ByteArray} (h : nxW t = some b) : 8 + b.size ≤ t.size ∧ (nxB t).1 = b ∧ (nxB t).2 = ⟨8 + b.size, 0, 0⟩ ∧ (nxN t).1 = b.size ∧ b.size ≤ 65536 := by
  unfold nxW at h
  by_cases h1 : 65536 < (nxN t).1
  · rw [if_pos h1] at h; cases h
  · rw [if_neg h1] at h
    by_cases h2 : (nxB t).2.no = 0 ∧ (nxS t).1 = crcW (nxB t).1
    · rw [if_pos h2] at h
      injection h with h
      obtain ⟨k1, k2, k3, k4⟩ := take_no h2.1
      obtain ⟨k5, k6, k7, _⟩ := take_no (t := t) (n := 4) (R := (nxN t).2) k1
      obtain ⟨_, k8, k9, _⟩ := take_no (t := t) (n := 4) (R := r00) k5
      have e1 : (nxN t).2 = ⟨4, 0, 0⟩ := k9
      have e2 : (nxS t).2 = ⟨8, 0, 0⟩ := by
        have e : (nxS t).2 = ⟨(nxN t).2.p + 4, 0, (nxN t).2.ea⟩ := k7
        rw [e, e1]
      have e0 : nxB t = rTake t (nxN t).1 ⟨8, 0, 0⟩ := by unfold nxB; rw [e2]
      rw [e2] at k2 k3 k4
      rw [← e0] at k3 k4
      have k4 := k4 k2
      have e3 : (nxN t).1 = b.size := by rw [← h]; exact k4.symm
      rw [e3] at k2 k3
      have k2' : 8 + b.size ≤ t.size := k2
      exact ⟨k2', h, k3, e3, by omega⟩
    · rw [if_neg h2] at h; cases h
theorem nx_head {t : ByteArray} {x post : List UInt8} {c : Nat} (h : t.data.toList = be 4 x.length ++ (be 4 c ++ (x ++ post))) (hc : c < 4294967296) (hx : x.length ≤ 65536) : nxW t = if c = crcW ⟨x.toArray⟩ then some ⟨x.toArray⟩ else none := by
  have h1 : nxN t = (x.length, ⟨4, 0, 0⟩) := rNum_ok (k := 4) (n := x.length) (pre := []) (post := be 4 c ++ (x ++ post)) (by omega) h 0
  have h2 : nxS t = (c, ⟨8, 0, 0⟩) := by
    have e := rNum_ok (s := t) (k := 4) (n := c) (pre := be 4 x.length) (post := x ++ post) (by omega) h 0
    rw [be_len] at e
    unfold nxS
    rw [h1]
    exact e
  have h3 : nxB t = (⟨x.toArray⟩, ⟨8 + x.length, 0, 0⟩) := by
    have e := rTake_ok (s := t) (pre := be 4 x.length ++ be 4 c) (x := x) (post := post) (by rw [h]; simp) 0
    rw [List.length_append, be_len, be_len] at e
    unfold nxB
    rw [h1, h2]
    exact e
  unfold nxW
  rw [h1, h2, h3]
  simp only
  rw [if_neg (by omega)]
  by_cases hh : c = crcW ⟨x.toArray⟩
  · rw [if_pos hh, if_pos (by first | exact ⟨trivial, hh⟩ | exact ⟨rfl, hh⟩)]
  · rw [if_neg hh, if_neg (fun h => hh h.2)]
theorem ba_list (b : ByteArray) : (⟨b.data.toList.toArray⟩ : ByteArray) = b := ba_eq (by simp)
theorem nx_frame {t b : ByteArray} {post : List UInt8} (h : t.data.toList = frW b ++ post) (hb : b.size ≤ 65536) : nxW t = some b := by
  have e := nx_head (t := t) (x := b.data.toList) (post := post) (c := crcW b) (by rw [h, bLen]; unfold frW; simp) (crcW_lt b) (by rw [bLen]; exact hb)
  rw [ba_list, if_pos rfl] at e
  exact e
theorem nx_wrong {t b b' : ByteArray} {post : List UInt8} (h : t.data.toList = be 4 b.size ++ (be 4 (crcW b) ++ (b'.data.toList ++ post))) (hs : b'.size = b.size) (hb : b.size ≤ 65536) (hne : crcW b' ≠ crcW b) : nxW t = none := by
  have e := nx_head (t := t) (x := b'.data.toList) (post := post) (c := crcW b) (by rw [h, bLen, hs]) (crcW_lt b) (by rw [bLen, hs]; exact hb)
  rw [ba_list, if_neg (fun h => hne h.symm)] at e
  exact e
/-- A frame that is cut is no frame. -/
theorem nx_short {t b : ByteArray} {j : Nat} (h : t.data.toList = (frW b).take j) (hj : j < 8 + b.size) (hb : b.size ≤ 65536) : nxW t = none := by
  have hl := slen h
  rw [List.length_take, frW_len] at hl
  have hne : ¬ ((nxB t).2.no = 0 ∧ (nxS t).1 = crcW (nxB t).1) := by
    rintro ⟨hh, _⟩
    obtain ⟨k1, k2, k3, _⟩ := take_no hh
    obtain ⟨k5, k6, k7, _⟩ := take_no (t := t) (n := 4) (R := (nxN t).2) k1
    obtain ⟨_, k8, k9, _⟩ := take_no (t := t) (n := 4) (R := r00) k5
    have e1 : (nxN t).2 = ⟨4, 0, 0⟩ := k9
    have e2 : (nxS t).2 = ⟨8, 0, 0⟩ := by
      have e : (nxS t).2 = ⟨(nxN t).2.p + 4, 0, (nxN t).2.ea⟩ := k7
      rw [e, e1]
    have e3 : (nxN t).1 = b.size := by
      have e : (frW b).take j = be 4 b.size ++ (be 4 (crcW b) ++ b.data.toList).take (j - 4) := by
        unfold frW
        rw [List.take_append, be_len, List.take_of_length_le (by rw [be_len]; rw [e1] at k6; have : (4 : Nat) + 4 ≤ t.size := k6; omega)]
      have h1 : nxN t = (b.size, ⟨4, 0, 0⟩) := rNum_ok (k := 4) (n := b.size) (pre := []) (by omega) (by rw [h, e]; rfl) 0
      rw [h1]
    rw [e2, e3] at k2
    have : (8 : Nat) + b.size ≤ t.size := k2
    omega
  unfold nxW
  rw [if_neg hne]
  split <;> rfl
theorem nx_empty {t : ByteArray} (h : t.data.toList = []) : nxW t = none := nx_short (b := ⟨#[]⟩) (j := 0) (by rw [h]; rfl) (by omega) (by decide)
/-- The records of bytes from a place on, and where they end. -/
def ScR (s : ByteArray) : List ByteArray → Nat → Nat → Prop
  | [], p, n => p = n ∧ nxW (s.extract p s.size) = none
  | b :: L, p, n => nxW (s.extract p s.size) = some b ∧ ScR s L (p + (8 + b.size)) n
theorem ext_size {s : ByteArray} {p : Nat} (hp : p ≤ s.size) : (s.extract p s.size).size = s.size - p := by
  rw [← bLen, ext_list, List.length_take, List.length_drop, bLen]
  omega
theorem scR_ex (s : ByteArray) : ∀ k p, p ≤ s.size → s.size - p < k → ∃ L n, ScR s L p n := by
  intro k
  induction k with
  | zero => intro p _ h; exact absurd h (by omega)
  | succ k ih =>
    intro p hp h
    rcases hx : nxW (s.extract p s.size) with _ | b
    · exact ⟨[], p, rfl, hx⟩
    · have h1 := (nxW_some hx).1
      rw [ext_size hp] at h1
      obtain ⟨L, n, hL⟩ := ih (p + (8 + b.size)) (by omega) (by omega)
      exact ⟨b :: L, n, hx, hL⟩
theorem scR_le {s : ByteArray} : ∀ {L : List ByteArray} {p n : Nat}, ScR s L p n → p ≤ s.size → p ≤ n ∧ n ≤ s.size ∧ L.length ≤ s.size - p ∧ ∀ b ∈ L, b.size ≤ s.size := by
  intro L
  induction L with
  | nil => rintro p n ⟨rfl, _⟩ hp; exact ⟨Nat.le_refl _, hp, Nat.zero_le _, fun b hb => by cases hb⟩
  | cons b L ih =>
    rintro p n ⟨h1, h2⟩ hp
    have h3 := (nxW_some h1).1
    rw [ext_size hp] at h3
    obtain ⟨k1, k2, k3, k4⟩ := ih h2 (by omega)
    refine ⟨by omega, k2, by rw [List.length_cons]; omega, fun c hc => ?_⟩
    rcases List.mem_cons.1 hc with rfl | hc
    · omega
    · exact k4 c hc
theorem scR_uniq {s : ByteArray} : ∀ {L L' : List ByteArray} {p n n' : Nat}, ScR s L p n → ScR s L' p n' → L = L' ∧ n = n' := by
  intro L
  induction L with
  | nil =>
    rintro L' p n n' ⟨rfl, h⟩ h'
    cases L' with
    | nil => exact ⟨rfl, h'.1⟩
    | cons b L' => rw [h'.1] at h; cases h
  | cons b L ih =>
    rintro L' p n n' ⟨h, h2⟩ h'
    cases L' with
    | nil => rw [h'.2] at h; cases h
    | cons b' L' =>
      obtain ⟨h3, h4⟩ := h'
      rw [h] at h3
      injection h3 with h3
      subst h3
      obtain ⟨rfl, rfl⟩ := ih h2 h4
      exact ⟨rfl, rfl⟩
/-- The frames of records. -/
def frs : List ByteArray → List UInt8
  | [] => []
  | b :: L => frW b ++ frs L
theorem frs_app (L K : List ByteArray) : frs (L ++ K) = frs L ++ frs K := by
  induction L with
  | nil => rfl
  | cons b L ih => show frW b ++ frs (L ++ K) = (frW b ++ frs L) ++ frs K; rw [ih, List.append_assoc]
theorem frs_len (L : List ByteArray) (hL : ∀ b ∈ L, b.size ≤ 200) : (frs L).length ≤ 208 * L.length := by
  induction L with
  | nil => exact Nat.zero_le _
  | cons b L ih =>
    have h1 := ih fun c hc => hL c (List.mem_cons_of_mem _ hc)
    have h2 := hL b List.mem_cons_self
    show (frW b ++ frs L).length ≤ _
    rw [List.length_append, frW_len, List.length_cons]
    omega
theorem scR_frs {s : ByteArray} {tail : List UInt8} (ht : ∀ t : ByteArray, t.data.toList = tail → nxW t = none) : ∀ (L : List ByteArray) (pre : List UInt8), (∀ b ∈ L, b.size ≤ 65536) → s.data.toList = pre ++ (frs L ++ tail) → ScR s L pre.length (pre.length + (frs L).length) := by
  intro L
  induction L with
  | nil =>
    intro pre _ hs
    refine ⟨by simp [frs], ht _ ?_⟩
    rw [tail_eq hs]
    rfl
  | cons b L ih =>
    intro pre hL hs
    have h1 : s.data.toList = pre ++ (frW b ++ (frs L ++ tail)) := by rw [hs]; simp [frs]
    refine ⟨nx_frame (post := frs L ++ tail) (by rw [tail_eq h1]) (hL b List.mem_cons_self), ?_⟩
    have h2 := ih (pre ++ frW b) (fun c hc => hL c (List.mem_cons_of_mem _ hc)) (by rw [h1]; simp)
    rw [List.length_append, frW_len] at h2
    have e : pre.length + (frs (b :: L)).length = pre.length + (8 + b.size) + (frs L).length := by
      show pre.length + (frW b ++ frs L).length = _
      rw [List.length_append, frW_len]
      omega
    rw [e]
    exact h2
theorem scR_all {s : ByteArray} {L : List ByteArray} {tail : List UInt8} (ht : ∀ t : ByteArray, t.data.toList = tail → nxW t = none) (hL : ∀ b ∈ L, b.size ≤ 65536) (hs : s.data.toList = frs L ++ tail) : ScR s L 0 (frs L).length := by
  have h := scR_frs ht L [] hL hs
  simpa using h
/-- Frames that are cut anywhere: the first ones, whole, and what is no frame. -/
theorem frs_cut : ∀ (l : List ByteArray) (k : Nat), (∀ b ∈ l, b.size ≤ 65536) → k ≤ (frs l).length → ∃ m tail, m ≤ l.length ∧ (frs l).take k = frs (l.take m) ++ tail ∧ (∀ t : ByteArray, t.data.toList = tail → nxW t = none) ∧ ∀ n, n ≤ l.length → (frs (l.take n)).length ≤ k → n ≤ m := by
  intro l
  induction l with
  | nil =>
    intro k _ hk
    refine ⟨0, [], Nat.le_refl _, ?_, fun t h => nx_empty h, fun n hn _ => hn⟩
    simp [frs]
  | cons b l ih =>
    intro k hl hk
    have hbl := hl b List.mem_cons_self
    by_cases h : k < 8 + b.size
    · refine ⟨0, (frW b).take k, Nat.zero_le _, ?_, fun t ht => nx_short ht h hbl, fun n hn hf => ?_⟩
      · show (frW b ++ frs l).take k = frs [] ++ _
        rw [List.take_append_of_le_length (by rw [frW_len]; omega)]
        rfl
      · cases n with
        | zero => exact Nat.le_refl _
        | succ n =>
          have e : (frs ((b :: l).take (n + 1))).length = 8 + b.size + (frs (l.take n)).length := by
            show (frW b ++ frs (l.take n)).length = _
            rw [List.length_append, frW_len]
          omega
    · have hk' : k - (8 + b.size) ≤ (frs l).length := by
        have e : (frs (b :: l)).length = 8 + b.size + (frs l).length := by
          show (frW b ++ frs l).length = _
          rw [List.length_append, frW_len]
        omega
      obtain ⟨m, tail, h1, h2, h3, h4⟩ := ih (k - (8 + b.size)) (fun c hc => hl c (List.mem_cons_of_mem _ hc)) hk'
      refine ⟨m + 1, tail, by rw [List.length_cons]; omega, ?_, h3, fun n hn hf => ?_⟩
      · show (frW b ++ frs l).take k = (frW b ++ frs (l.take m)) ++ tail
        rw [List.take_append, frW_len, List.take_of_length_le (by rw [frW_len]; omega), h2, List.append_assoc]
      · cases n with
        | zero => omega
        | succ n =>
          have e : (frs ((b :: l).take (n + 1))).length = 8 + b.size + (frs (l.take n)).length := by
            show (frW b ++ frs (l.take n)).length = _
            rw [List.length_append, frW_len]
          have := h4 n (by rw [List.length_cons] at hn; omega) (by omega)
          omega
end Go.Proofs.YthplhdepllloaaaDoor
