/- What is proved here: where a text stands among others, whether it does, who is next of those that are free, and whether texts are few: as the packages and the document have them. Conditions: the texts stand where the slice says; few of them. -/
import Derived.Test.YtkjghlmlfanafaaPick32
import Derived.Lib.Hide
namespace Go.Proofs.Ytkjghlmlfanafaa
open Go.RowKit Go.Extern.Stop Go.Stop Go.Extern

theorem eq_text (a b : ByteArray) : (a.toList == b.toList) = decide (a = b) := by
  rw [ByteArray.toList_eq, ByteArray.toList_eq]
  by_cases h : a = b
  · subst h; simp
  · rw [decide_eq_false h]
    exact beq_eq_false_iff_ne.2 fun e => h (ByteArray.ext (Array.toList_inj.mp e))
theorem ret_bool {a b : Bool} (h : a = b) : Ending.returned (.bool a) = .returned (.bool b) := by rw [h]
theorem ret_str {a b : ByteArray} (h : a = b) : Ending.returned (.string a) = .returned (.string b) := by rw [h]
/-- Does a text stand among others? -/
def inB (L : List ByteArray) (v : ByteArray) : Bool := decide (0 ≤ idxI L v)
theorem inB_iff {L : List ByteArray} {v : ByteArray} : inB L v = true ↔ v ∈ L := by
  unfold inB
  rw [decide_eq_true_iff]
  exact (idx_bd L v).2.2
/-- No text. -/
def e0 : ByteArray := ⟨#[]⟩
/-- These texts stand at an address, if there are any. -/
def SRd (w : World) (A : Option Addr) (L : List ByteArray) : Prop := 0 < L.length → ∃ g off, A = some ⟨g, off, none⟩ ∧ ∀ k, k < L.length → w.cell? ⟨g, off + k, none⟩ = some (.string (L.getD k e0))
section
variable {w w' : World} {A B : Option Addr} {L F : List ByteArray}
theorem SRd.nil (w : World) (A : Option Addr) : SRd w A [] := fun h => absurd h (by simp)
theorem SRd.drewN (h : SRd w A L) (n : Nat) : SRd (w.drewN n) A L := h
theorem SRd.drew (h : SRd w A L) : SRd w.drew A L := h
theorem SRd.cells (h : SRd w A L) (hp : 0 < L.length) : ∃ g off, A = some ⟨g, off, none⟩ ∧ Hid (∀ k, k < L.length → w.cell? ⟨g, off + k, none⟩ = some (.string (L.getD k e0))) := by
  obtain ⟨g, off, h1, h2⟩ := h hp
  exact ⟨g, off, h1, Lib.hid h2⟩
theorem nil_of {n : Nat} (hn : n = L.length) (h : ¬ 0 < n) : L = [] ∧ n = 0 := ⟨List.eq_nil_of_length_eq_zero (by omega), by omega⟩
theorem index_any (h : SRd w A L) (n c : Nat) (hn : n = L.length) (hm : n ≤ 1000) (v : ByteArray) : Calls Try.prog 59 #[.slice A n c, .string v] w fun x w' => x = .returned (.int .i64 (idxI L v)) ∧ w = w' := by
  by_cases hp : 0 < n
  · obtain ⟨g, off, rfl, HC⟩ := h.cells (by omega)
    have HA := Lib.hid (fun k (hk : k < L.length) (hx : L.getD k e0 = v) (hno : ∀ j, j < k → L.getD j e0 ≠ v) => idx_at (e := e0) hk hx hno)
    have HN := Lib.hid (fun (hno : ∀ j, j < L.length → L.getD j e0 ≠ v) => idx_no (e := e0) hno)
    have HL := Lib.hid hn
    clear h hn
    go_enter Try.func59, Try.ntmps59
    go_wp2
    go_loop [8] (fun i => ∃ k : Nat, k ≤ n ∧ i = .int .i64 k ∧ Hid (∀ j, j < k → L.getD j e0 ≠ v)) (fun i => n - (intOf i).toNat)
    case atStart => exact ⟨0, by omega, rfl, Lib.hid fun j hj => absurd hj (by omega)⟩
    case round =>
      obtain ⟨k, hk, rfl, HP⟩ := hrel
      by_cases hlt : k < n
      · have c0 := HC.out k (by rw [← HL.out]; exact hlt)
        have he := eq_text v (L.getD k e0)
        by_cases hv : v = L.getD k e0
        · rw [decide_eq_true hv] at he
          have HE := Lib.hid (HA.out k (by rw [← HL.out]; exact hlt) hv.symm HP.out)
          clear hv
          generalize L.getD k e0 = y at *
          go_wp2
          go_ret
          exact ⟨by rw [HE.out]; rfl, rfl⟩
        · rw [decide_eq_false hv] at he
          have HE := Lib.hid (show ∀ j, j < k + 1 → L.getD j e0 ≠ v from fun j hj => by
            by_cases hjk : j = k
            · subst hjk; exact fun h => hv h.symm
            · exact HP.out j (by omega))
          clear hv
          generalize L.getD k e0 = y at *
          go_wp2
          go_round
          case rel => exact ⟨k + 1, by omega, by go_num, HE⟩
          case measure => simp [intOf]; omega
      · have HE := Lib.hid (HN.out fun j hj => HP.out j (by rw [← HL.out] at hj; omega))
        go_wp2
        go_ret
        exact ⟨by rw [HE.out]; rfl, rfl⟩
  · obtain ⟨rfl, rfl⟩ := nil_of hn hp
    clear h hn hm hp
    go_enter Try.func59, Try.ntmps59
    go_wp2
    go_loop [8] (fun i => i = .int .i64 0) (fun _ => 0)
    case atStart => rfl
    case round =>
      subst hrel
      go_wp2
      go_ret
      exact ⟨rfl, rfl⟩
theorem contains_any (h : SRd w A L) (n c : Nat) (hn : n = L.length) (hm : n ≤ 1000) (v : ByteArray) : Calls Try.prog 60 #[.slice A n c, .string v] w fun x w' => x = .returned (.bool (inB L v)) ∧ w = w' := by
  have HI := Lib.hid (index_any h n c hn hm v)
  have hb := idx_bd L v
  have HB := Lib.hid (show decide (0 ≤ idxI L v) = inB L v from rfl)
  have h1 := hb.1
  have h2 := hb.2.1
  clear h hn hb
  generalize idxI L v = i at *
  go_enter Try.func60, Try.ntmps60
  go_wp2_with fail
  refine HI.out.mono ?_
  rintro x w1 ⟨rfl, rfl⟩
  go_wp2_with fail
  go_ret
  exact ⟨ret_bool HB.out, rfl⟩
theorem in_any (h : SRd w A L) (n c : Nat) (hn : n = L.length) (hm : n ≤ 1000) (v : ByteArray) : Calls Try.prog 40 #[.slice A n c, .string v] w fun x w' => x = .returned (.bool (inB L v)) ∧ w = w' := by
  by_cases hp : 0 < n
  · obtain ⟨g, off, rfl, HC⟩ := h.cells (by omega)
    have HL := Lib.hid hn
    clear h hn
    go_enter Try.func40, Try.ntmps40
    go_wp2
    go_loop [5] (fun i => ∃ k : Nat, k ≤ n ∧ i = .int .i64 k ∧ Hid (∀ j, j < k → L.getD j e0 ≠ v)) (fun i => n - (intOf i).toNat)
    case atStart => exact ⟨0, by omega, rfl, Lib.hid fun j hj => absurd hj (by omega)⟩
    case round =>
      obtain ⟨k, hk, rfl, HP⟩ := hrel
      by_cases hlt : k < n
      · have c0 := HC.out k (by rw [← HL.out]; exact hlt)
        have he := eq_text (L.getD k e0) v
        by_cases hv : L.getD k e0 = v
        · rw [decide_eq_true hv] at he
          have HE := Lib.hid (show true = inB L v from (inB_iff.2 (by
            rw [← hv, List.getD_eq_getElem?_getD, List.getElem?_eq_getElem (by rw [← HL.out]; exact hlt)]
            exact List.getElem_mem _)).symm)
          clear hv
          generalize L.getD k e0 = y at *
          go_wp2
          go_ret
          exact ⟨ret_bool HE.out, rfl⟩
        · rw [decide_eq_false hv] at he
          have HE := Lib.hid (show ∀ j, j < k + 1 → L.getD j e0 ≠ v from fun j hj => by
            by_cases hjk : j = k
            · subst hjk; exact hv
            · exact HP.out j (by omega))
          clear hv
          generalize L.getD k e0 = y at *
          go_wp2
          go_round
          case rel => exact ⟨k + 1, by omega, by go_num, HE⟩
          case measure => simp [intOf]; omega
      · have HE := Lib.hid (show false = inB L v from (Bool.eq_false_iff.2 fun hm => by
          obtain ⟨j, hj, e⟩ := List.mem_iff_getElem.1 (inB_iff.1 hm)
          have := HP.out j (by rw [← HL.out] at hj; omega)
          rw [List.getD_eq_getElem?_getD, List.getElem?_eq_getElem hj] at this
          exact this e).symm)
        go_wp2
        go_ret
        exact ⟨ret_bool HE.out, rfl⟩
  · obtain ⟨rfl, rfl⟩ := nil_of hn hp
    clear h hn hm hp
    go_enter Try.func40, Try.ntmps40
    go_wp2
    go_loop [5] (fun i => i = .int .i64 0) (fun _ => 0)
    case atStart => rfl
    case round =>
      subst hrel
      go_wp2
      go_ret
      exact ⟨ret_bool rfl, rfl⟩
end
end Go.Proofs.Ytkjghlmlfanafaa
