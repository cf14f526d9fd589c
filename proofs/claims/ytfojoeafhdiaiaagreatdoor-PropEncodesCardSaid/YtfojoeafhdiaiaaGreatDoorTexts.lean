/- What is proved here, of whatever program: the place of a text among others, texts that stand somewhere, rows of texts of a call's own and append to them, and an argument that is a slice of texts. No conditions but those that each theorem names. -/
import Derived.Test.YtfojoeafhdiaiaaGreatDoorObj
import Derived.Lib.Hide
import Derived.OwnWalk
import Derived.Laws.AppendOwn
import Derived.Laws.AppendOwnNone
import Derived.SliceStrings
namespace Go.Proofs.YtfojoeafhdiaiaaGreatDoor
open Go.RowKit Go.Extern.Stop Go.Stop Go.Extern
section
variable {α : Type}
/-- The place of the first one that is x; -1 if there is none. -/
def idxI [DecidableEq α] (L : List α) (x : α) : Int := match L.findIdx? (fun y => decide (y = x)) with | some i => (i : Int) | none => -1
theorem idx_at [DecidableEq α] {L : List α} {e x : α} {k : Nat} (hk : k < L.length) (hx : L.getD k e = x) (hno : ∀ j, j < k → L.getD j e ≠ x) : idxI L x = k := by
  have h1 : L.findIdx? (fun y => decide (y = x)) = some k := by
    rw [List.findIdx?_eq_some_iff_getElem]
    rw [List.getD_eq_getElem?_getD, List.getElem?_eq_getElem hk] at hx
    refine ⟨hk, decide_eq_true hx, fun j hj hc => ?_⟩
    have := hno j hj
    rw [List.getD_eq_getElem?_getD, List.getElem?_eq_getElem (by omega)] at this
    exact this (of_decide_eq_true hc)
  unfold idxI
  rw [h1]
theorem idx_no [DecidableEq α] {L : List α} {e x : α} (hno : ∀ j, j < L.length → L.getD j e ≠ x) : idxI L x = -1 := by
  have h1 : L.findIdx? (fun y => decide (y = x)) = none := by
    rw [List.findIdx?_eq_none_iff]
    intro y hy
    obtain ⟨j, hj, rfl⟩ := List.mem_iff_getElem.1 hy
    have := hno j hj
    rw [List.getD_eq_getElem?_getD, List.getElem?_eq_getElem hj] at this
    exact decide_eq_false this
  unfold idxI
  rw [h1]
theorem idx_bd [DecidableEq α] (L : List α) (x : α) : -1 ≤ idxI L x ∧ idxI L x < L.length ∧ (0 ≤ idxI L x ↔ x ∈ L) := by
  unfold idxI
  cases h : L.findIdx? (fun y => decide (y = x)) with
  | none =>
    rw [List.findIdx?_eq_none_iff] at h
    refine ⟨Int.le_refl _, by show (-1 : Int) < _; omega, fun h0 => absurd h0 (by decide), fun hm => ?_⟩
    have := h x hm
    simp at this
  | some i =>
    rw [List.findIdx?_eq_some_iff_getElem] at h
    obtain ⟨hi, hx, _⟩ := h
    refine ⟨by show (-1 : Int) ≤ i; omega, by show (i : Int) < _; omega, fun _ => ?_, fun _ => by show (0 : Int) ≤ i; omega⟩
    rw [← of_decide_eq_true hx]
    exact List.getElem_mem hi
end
theorem eq_text (a b : ByteArray) : (a.toList == b.toList) = decide (a = b) := by
  rw [ByteArray.toList_eq, ByteArray.toList_eq]
  by_cases h : a = b
  · subst h; simp
  · rw [decide_eq_false h]
    exact beq_eq_false_iff_ne.2 fun e => h (ByteArray.ext (Array.toList_inj.mp e))
theorem ret_bool {a b : Bool} (h : a = b) : Ending.returned (.bool a) = .returned (.bool b) := by rw [h]
theorem ret_str {a b : ByteArray} (h : a = b) : Ending.returned (.string a) = .returned (.string b) := by rw [h]
/-- Does a text stand among others? -/
def inB (L : List ByteArray) (v : ByteArray) : Bool := decide (0 ≤ idxI L v)
theorem inB_iff {L : List ByteArray} {v : ByteArray} : inB L v = true ↔ v ∈ L := by
  unfold inB
  rw [decide_eq_true_iff]
  exact (idx_bd L v).2.2
/-- No text. -/
def e0 : ByteArray := ⟨#[]⟩
/-- These texts stand at an address, if there are any. -/
def SRd (w : World) (A : Option Addr) (L : List ByteArray) : Prop := 0 < L.length → ∃ g off, A = some ⟨g, off, none⟩ ∧ ∀ k, k < L.length → w.cell? ⟨g, off + k, none⟩ = some (.string (L.getD k e0))
section
variable {w w' : World} {A B : Option Addr} {L F : List ByteArray}
theorem SRd.nil (w : World) (A : Option Addr) : SRd w A [] := fun h => absurd h (by simp)
theorem SRd.drewN (h : SRd w A L) (n : Nat) : SRd (w.drewN n) A L := h
theorem SRd.drew (h : SRd w A L) : SRd w.drew A L := h
theorem SRd.cells (h : SRd w A L) (hp : 0 < L.length) : ∃ g off, A = some ⟨g, off, none⟩ ∧ Hid (∀ k, k < L.length → w.cell? ⟨g, off + k, none⟩ = some (.string (L.getD k e0))) := by
  obtain ⟨g, off, h1, h2⟩ := h hp
  exact ⟨g, off, h1, Lib.hid h2⟩
theorem nil_of {n : Nat} (hn : n = L.length) (h : ¬ 0 < n) : L = [] ∧ n = 0 := ⟨List.eq_nil_of_length_eq_zero (by omega), by omega⟩
end
section
variable {w w' : World} {B : Nat} {v : Value} {L M : List ByteArray}
theorem add_to (g off j : Nat) : (⟨g, off, none⟩ : Addr).add j = ⟨g, off + j, none⟩ := by
  unfold Addr.add
  split
  · rename_i h; subst h; rfl
  · rfl
end
theorem drew_on {w w1 : World} {j : Nat} (h : w1 = w.drewN j) (k : Nat) : w1.drewN k = w.drewN (j + k) := by rw [h, World.drewN_drewN]
theorem below_drewN {B : Nat} {a w : World} (h : Below B a w) (n : Nat) : Below B a (w.drewN n) := ⟨h.os, h.tape, h.output, h.size, h.block⟩
section
open Go.ChangeShapes Go.WideShapes Go.RowKit Go.Deep
variable {H : Type} {enc : TypeId × Value → H} {w : World}
end
end Go.Proofs.YtfojoeafhdiaiaaGreatDoor
