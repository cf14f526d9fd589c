/- What is proved here: whether a kind may have a code, whether a code is bad, and what a connection is closed with, by the document's own answers, are what plain functions say. No conditions. -/
import Derived.Test.YthaelhaijeegjaaGreatDoorRef05
namespace Go.Proofs.YthaelhaijeegjaaGreatDoor
open Go.RowKit

def among (l g : List UInt8) : Bool := g.any fun c => l == [c]
def allowedB (k c : Int) : Bool := among (letterOf k) (groupsOf c)
theorem ret_bool {a b : Bool} (h : a = b) : Ending.returned (.bool a) = .returned (.bool b) := by rw [h]
theorem piece (g : List UInt8) (j : Nat) (h : j < g.length) : ((⟨g.toArray⟩ : ByteArray).extract j (j + 1)).toList = [g[j]] := by
  rw [ByteArray.toList_eq]
  have e : ((⟨g.toArray⟩ : ByteArray).extract j (j + 1)).data.toList = (g.drop j).take 1 := by
    simp [ByteArray.data_extract]
  rw [e, List.drop_eq_getElem_cons h]
  rfl
theorem groups_short (c : Int) : (groupsOf c).length ≤ 7 := by
  unfold groupsOf
  split
  · simp
  · cases hf : codeTable.find? fun x => x.1 == c.toNat with
    | none => simp
    | some y =>
      have hm := List.mem_of_find?_eq_some hf
      have hall : ∀ y ∈ codeTable, y.2.length ≤ 7 := by decide
      simpa using hall y hm

set_option maxHeartbeats 1000000 in
theorem ref_allowed (k c : Int) (w : World) : Calls Tryz.prog 80 #[.int .i64 k, .int .i64 c] w fun x w' => x = .returned (.bool (allowedB k c)) ∧ Below w.heap.size w w' := by
  have HG := Lib.hid (fun w => groups_any c w)
  have HL := Lib.hid (fun w => letter_any k w)
  unfold allowedB
  have hlen := groups_short c
  unfold GroupsSays at HG
  unfold LetterSays at HL
  generalize groupsOf c = g at *
  generalize letterOf k = l at *
  go_enter Tryz.func80, Tryz.ntmps80
  go_wp2_with fail
  refine (HG.out _).mono ?_
  rintro x w' ⟨rfl, rfl⟩
  go_wp2_with fail
  refine (HL.out _).mono ?_
  rintro x w1 ⟨rfl, hb⟩
  have HB := Lib.hid hb
  clear hb HG HL
  go_wp2
  go_loopg [7] g.length (fun n i wr => w1 = wr ∧ ∃ j : Nat, n = g.length - j ∧ j ≤ g.length ∧ i = .int .i64 j ∧ among l (g.take j) = false)
  case atStart => exact ⟨rfl, 0, rfl, Nat.zero_le _, rfl, rfl⟩
  case round =>
    obtain ⟨rfl, j, rfl, hj, rfl, ha⟩ := hrel
    have HA := Lib.hid ha
    clear ha
    by_cases hlt : j < g.length
    · have hp := piece g j hlt
      by_cases he : l = [g[j]]
      · have hx : (l == ((⟨g.toArray⟩ : ByteArray).extract j (j + 1)).toList) = true := by
          rw [hp, he]; simp
        have hy : among l g = true := by
          unfold among
          rw [List.any_eq_true]
          exact ⟨g[j], List.getElem_mem hlt, by rw [he]; simp⟩
        have HY := Lib.hid hy
        clear hp hy he
        go_wp2
        go_ret
        exact ⟨ret_bool HY.out.symm, HB.out⟩
      · have hx : (l == ((⟨g.toArray⟩ : ByteArray).extract j (j + 1)).toList) = false := by
          rw [hp]; exact beq_eq_false_iff_ne.2 he
        have hy : among l (g.take (j + 1)) = false := by
          unfold among at *
          rw [List.take_succ_eq_append_getElem hlt, List.any_append, HA.out]
          simp [he]
        have HY := Lib.hid hy
        clear hp hy he
        go_wp2
        go_roundg (g.length - (j + 1))
        case rel => exact ⟨rfl, j + 1, rfl, hlt, by go_num, HY.out⟩
        case measure => omega
    · have hy : among l g = false := by
        have := HA.out
        rwa [List.take_of_length_le (by omega)] at this
      have HY := Lib.hid hy
      clear hy
      go_wp2
      go_ret
      exact ⟨ret_bool HY.out.symm, HB.out⟩

def badB (c : Int) : Bool := decide (128 ≤ c ∧ c ≤ 255)
def closeOf (c : Int) : Int := if badB c && allowedB 14 c then c else 128
end Go.Proofs.YthaelhaijeegjaaGreatDoor
