/- What is proved here, on plain bytes: the document's number of so many bytes is a letter's whose bytes stand there, just if a letter of so many bytes stands there. No conditions. -/
import Derived.Test.YtfmkeapbddhndaaDoorRefB03
namespace Go.Proofs.YtfmkeapbddhndaaDoor

theorem ofNat_toNat8 (x : UInt8) : UInt8.ofNat x.toNat = x := UInt8.ofNat_toNat
theorem take_list (s : ByteArray) (k : Nat) : (s.extract 0 k).data.toList = s.data.toList.take k := by simp [ByteArray.data_extract]
theorem ref_num {s : ByteArray} {k : Nat} (h : szAt s 0 = k) (hk : 1 ≤ k) : refNum s k = (numAt s 0 k : Nat) := by
  rcases sz_or s 0 with h' | ⟨e, h1, h2, hc, ho⟩
  · omega
  · rw [← e, h] at hc
    rw [h] at e
    clear ho h1 h2
    have cl : ∀ a, classOf a = 2 → 192 ≤ a := by
      intro a h; unfold classOf at h; split at h <;> (try split at h) <;> (try split at h) <;> (try split at h) <;> (try split at h) <;> omega
    have cl3 : ∀ a, classOf a = 3 → 224 ≤ a := by
      intro a h; unfold classOf at h; split at h <;> (try split at h) <;> (try split at h) <;> (try split at h) <;> (try split at h) <;> omega
    have cl4 : ∀ a, classOf a = 4 → 240 ≤ a := by
      intro a h; unfold classOf at h; split at h <;> (try split at h) <;> (try split at h) <;> (try split at h) <;> (try split at h) <;> omega
    have hb := class_bd (bAt s 0)
    rcases (show k = 1 ∨ k = 2 ∨ k = 3 ∨ k = 4 by omega) with rfl | rfl | rfl | rfl
    · rfl
    · have := cl _ e.symm
      simp [contB, isC] at hc
      show (64 : Int) * ((bAt s 0 : Int) - 192) + (bAt s 1 : Int) - 128 = (((bAt s 0 - 192) * 64 + (bAt s 1 - 128) : Nat) : Int)
      omega
    · have := cl3 _ e.symm
      simp [contB, isC] at hc
      show (64 : Int) * ((64 : Int) * ((bAt s 0 : Int) - 224) + (bAt s 1 : Int) - 128) + (bAt s 2 : Int) - 128 = ((((bAt s 0 - 224) * 64 + (bAt s 1 - 128)) * 64 + (bAt s 2 - 128) : Nat) : Int)
      omega
    · have := cl4 _ e.symm
      simp [contB, isC] at hc
      show (64 : Int) * ((64 : Int) * ((64 : Int) * ((bAt s 0 : Int) - 240) + (bAt s 1 : Int) - 128) + (bAt s 2 : Int) - 128) + (bAt s 3 : Int) - 128 = (((((bAt s 0 - 240) * 64 + (bAt s 1 - 128)) * 64 + (bAt s 2 - 128)) * 64 + (bAt s 3 - 128) : Nat) : Int)
      omega
theorem hit {s : ByteArray} {k : Nat} (h : szAt s 0 = k) (hk : 1 ≤ k) : letB (refNum s k) = true ∧ (⟨(bytesOf (refNum s k)).toArray⟩ : ByteArray) = s.extract 0 k := by
  have hn := ref_num h hk
  have hz := sz_num (s := s) (at_ := 0) (by omega)
  rw [h] at hz
  obtain ⟨h1, h2, h3⟩ := hz
  rw [hn]
  refine ⟨h1, ?_⟩
  have hsz := (sz_bd s 0).2 (by omega)
  rw [h] at hsz
  apply ByteArray.ext
  apply Array.toList_inj.mp
  rw [take_list]
  show bytesOf _ = _
  have hlen : (bytesOf (numAt s 0 k : Nat)).length = k := by rw [bytesOf_len h1, Int.toNat_natCast]; exact h2
  apply List.ext_getElem
  · rw [hlen, List.length_take, bLen]; omega
  · intro i hi1 hi2
    rw [hlen] at hi1
    have g := bytesOf_get h1 i (by rw [Int.toNat_natCast]; omega)
    rw [Int.toNat_natCast] at g
    have g3 := h3 i hi1
    rw [Nat.zero_add] at g3
    rw [← g3] at g
    unfold bAt at g
    have g4 := UInt8.toNat_inj.1 g
    rw [List.getD_eq_getElem?_getD, List.getD_eq_getElem?_getD, List.getElem?_eq_getElem (by omega), List.getElem?_eq_getElem (by rw [bLen]; omega)] at g4
    rw [List.getElem_take]
    exact g4
theorem miss {s : ByteArray} {k : Nat} (hs : k ≤ s.size) (hl : letB (refNum s k) = true) (h : (⟨(bytesOf (refNum s k)).toArray⟩ : ByteArray) = s.extract 0 k) : szAt s 0 = k := by
  have h' := congrArg (fun x : ByteArray => x.data.toList) h
  simp only [take_list] at h'
  have h2 : bytesOf (refNum s k) = s.data.toList.take k := h'
  have hlen := bytesOf_len hl
  have hlk : lenOf (refNum s k).toNat = k := by
    rw [← hlen, h2, List.length_take, bLen]; omega
  have := sz_of_bytes (s := s) (at_ := 0) hl (by omega) (fun i hi => by
    rw [← bytesOf_get hl i hi, h2, Nat.zero_add]
    unfold bAt
    rw [List.getD_eq_getElem?_getD, List.getD_eq_getElem?_getD, List.getElem?_take_of_lt (by omega)])
  rw [this, hlk]
theorem bytes_ne0 {n : Int} (h : letB n = true) : (⟨(bytesOf n).toArray⟩ : ByteArray) ≠ ⟨#[]⟩ := by
  intro e
  have h1 : bytesOf n = [] := congrArg (fun x : ByteArray => x.data.toList) e
  have hl := bytesOf_len h
  have hb := lenOf_bd n.toNat
  rw [h1] at hl
  have : (0 : Nat) = lenOf n.toNat := hl
  omega
end Go.Proofs.YtfmkeapbddhndaaDoor
