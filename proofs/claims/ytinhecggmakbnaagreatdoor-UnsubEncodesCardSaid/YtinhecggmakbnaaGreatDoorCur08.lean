/- What is proved here, on plain values: what stands ahead of a reader is read, step by step. Conditions: few bytes. -/
import Derived.Test.YtinhecggmakbnaaGreatDoorBck08
namespace Go.Proofs.YtinhecggmakbnaaGreatDoor
set_option maxRecDepth 100000
open Go.RowKit Go.Extern.Stop Go.Stop Go.Extern
/-- A reader without an error, and what stands ahead of it. -/
def Cur (s : ByteArray) (R : RV) (l : List UInt8) : Prop := ∃ pre, R = ⟨pre.length, 0, 0⟩ ∧ s.data.toList = pre ++ l
section
variable {s : ByteArray} {R : RV} {l : List UInt8}
theorem Cur.start {l : List UInt8} (h : s.data.toList = l) : Cur s ⟨0, 0, 0⟩ l := ⟨[], rfl, h⟩
theorem Cur.no (h : Cur s R l) : R.no = 0 := by
  obtain ⟨pre, rfl, _⟩ := h
  rfl
theorem Cur.len (h : Cur s R l) : R.p + l.length = s.size := by
  obtain ⟨pre, rfl, hs⟩ := h
  have := slen hs
  rw [List.length_append] at this
  exact this.symm
theorem Cur.end_ (h : Cur s R []) : R.p = s.size := by
  have := h.len
  simpa using this
theorem Cur.num {k n : Nat} (hn : n < 256 ^ k) (h : Cur s R (be k n ++ l)) : ∃ R', rNum s k R = (n, R') ∧ R'.p = R.p + k ∧ Cur s R' l := by
  obtain ⟨pre, rfl, hs⟩ := h
  refine ⟨_, rNum_ok hn hs 0, rfl, pre ++ be k n, by rw [List.length_append, be_len], by rw [hs]; simp⟩
theorem Cur.text {t : ByteArray} (ht : (checkOf t).1 = 0) (h : Cur s R ((be 2 t.size ++ t.data.toList) ++ l)) : ∃ R', rText s R = (t, R') ∧ R'.p = R.p + 2 + t.size ∧ Cur s R' l := by
  obtain ⟨pre, rfl, hs⟩ := h
  refine ⟨_, rText_ok ht hs 0, by show pre.length + (2 + t.size) = pre.length + 2 + t.size; omega, pre ++ (be 2 t.size ++ t.data.toList), by rw [List.length_append, List.length_append, be_len, bLen], by rw [hs]; simp⟩
theorem Cur.bin {t : ByteArray} (ht : t.size < 65536) (h : Cur s R ((be 2 t.size ++ t.data.toList) ++ l)) : ∃ R', rBin s R = (t, R') ∧ R'.p = R.p + 2 + t.size ∧ Cur s R' l := by
  obtain ⟨pre, rfl, hs⟩ := h
  refine ⟨_, rBin_ok ht hs 0, by show pre.length + (2 + t.size) = pre.length + 2 + t.size; omega, pre ++ (be 2 t.size ++ t.data.toList), by rw [List.length_append, List.length_append, be_len, bLen], by rw [hs]; simp⟩
theorem Cur.props {k : Int} {L : PL} (he : (encR k L).no = 0) (hsz : ∀ p ∈ L, p.s.size < 65536 ∧ p.v.size < 65536) (hl : (wrAll (actsL6 L)).L.length ≤ 268435455) (h : Cur s R ((encR k L).L ++ l)) : ∃ R', readF k s R = (⟨0, 0, 0, plL L⟩, R') ∧ R'.p = R.p + (encR k L).L.length ∧ Cur s R' l := by
  obtain ⟨pre, rfl, hs⟩ := h
  refine ⟨_, read_enc he hsz hl s pre l 0 hs, rfl, pre ++ (encR k L).L, by rw [List.length_append], by rw [hs]; simp⟩
end
theorem textE_of {t : ByteArray} (ht : (checkOf t).1 = 0) : textE t = ⟨0, 0, be 2 t.size ++ t.data.toList⟩ := by
  unfold textE binE
  rw [if_pos ht]
theorem stepW_text {W : EV} (h : W.no = 0) {t : ByteArray} (ht : (checkOf t).1 = 0) : stepW W (textE t) = ⟨0, W.at_, W.L ++ (be 2 t.size ++ t.data.toList)⟩ := by
  rw [textE_of ht]
  exact stepW_ok h rfl
theorem stepW_bin {W : EV} (h : W.no = 0) (t : ByteArray) : stepW W (binE t) = ⟨0, W.at_, W.L ++ (be 2 t.size ++ t.data.toList)⟩ := stepW_ok h rfl
theorem stepW_num_no {W : EV} {k : Nat} {n : Int} (h : (stepW W (numE k n)).no = 0) : W.no = 0 ∧ ∃ m : Nat, n = m ∧ m < 256 ^ k ∧ stepW W (numE k n) = ⟨0, W.at_, W.L ++ be k m⟩ := by
  obtain ⟨h0, hn, hs⟩ := stepW_no h
  obtain ⟨m, hm, hm2, hmL⟩ := numE_ok hn
  exact ⟨h0, m, hm, hm2, by rw [hs, hmL]⟩
theorem stepW_text_no {W : EV} {t : ByteArray} (h : (stepW W (textE t)).no = 0) : W.no = 0 ∧ (checkOf t).1 = 0 ∧ stepW W (textE t) = ⟨0, W.at_, W.L ++ (be 2 t.size ++ t.data.toList)⟩ := by
  obtain ⟨h0, hn, hs⟩ := stepW_no h
  obtain ⟨ht, htL⟩ := textE_ok hn
  exact ⟨h0, ht, by rw [hs, htL]⟩
theorem stepW_any_no {W : EV} {l : List UInt8} (h : (stepW W ⟨0, 0, l⟩).no = 0) : W.no = 0 ∧ stepW W ⟨0, 0, l⟩ = ⟨0, W.at_, W.L ++ l⟩ := by
  obtain ⟨h0, _, hs⟩ := stepW_no h
  exact ⟨h0, hs⟩
theorem rText_sz {s : ByteArray} {R : RV} (h0 : R.no = 0) (hp : R.p ≤ s.size) (h : (rText s R).2.no = 0) : (checkOf (rText s R).1).1 = 0 ∧ (rText s R).1.size ≤ s.size ∧ (rText s R).2.p ≤ s.size := by
  obtain ⟨k1, k2, k3⟩ := rText_is h0 h
  have := rText_le (s := s) hp
  exact ⟨k1, by omega, this⟩
theorem rBin_sz {s : ByteArray} {R : RV} (h0 : R.no = 0) (hp : R.p ≤ s.size) (h : (rBin s R).2.no = 0) : (rBin s R).1.size ≤ s.size ∧ (rBin s R).1.size < 65536 ∧ (rBin s R).2.p ≤ s.size := by
  obtain ⟨k2, k3⟩ := rBin_is h0 h
  have := rBin_le (s := s) hp
  exact ⟨by omega, k2, this⟩
theorem no_of {R : RV} {X : RV} (h : X.no = 0) (hs : R.no ≠ 0 → X = R) : R.no = 0 := by
  by_cases c : R.no = 0
  · exact c
  · rw [hs c] at h
    exact absurd h c
end Go.Proofs.YtinhecggmakbnaaGreatDoor
