/- What is proved here: the document's own groups of a code, the letter of a kind, and whether a kind may have a code, are what plain lists say. No conditions. What is proved here: whether a kind may have a code, whether a code is bad, and what a connection is closed with, by the document's own answers, are what plain functions say. No conditions. What is proved here: the bits of a code's groups, and of a kind's, of the landed code. No conditions. What is proved here: whether a kind may have a code, of the landed code. No conditions beyond the numbers' range. -/
import Derived.Test.YtfkimpcaokgldaaGreatDoorLib
import Derived.WalkKit
import Derived.Lib.Hide
import Derived.Below
import Derived.Deep.LoopGhost
import Derived.WalkSpells
import Derived.WalkLawsBesides
import Derived.Outline
import Derived.IntWalk
namespace Go.Proofs.YtfkimpcaokgldaaGreatDoor
open Go.RowKit

/-- The table: a code's groups. -/
def codeTable : List (Nat × List UInt8) := [(0, [67, 65, 82, 83, 85, 68, 88]), (1, [83]), (2, [83]), (4, [68]), (16, [65]), (17, [85]), (24, [88]), (25, [88]), (128, [67, 65, 83, 85, 68]), (129, [67, 68]), (130, [67, 68]), (131, [67, 65, 83, 85, 68]), (132, [67]), (133, [67]), (134, [67]), (135, [67, 65, 83, 85, 68]), (136, [67]), (137, [67, 68]), (138, [67]), (139, [68]), (140, [67, 68]), (141, [68]), (142, [68]), (143, [83, 85, 68]), (144, [67, 65, 68]), (145, [65, 83, 85]), (146, [82]), (147, [68]), (148, [68]), (149, [67, 68]), (150, [68]), (151, [67, 65, 83, 68]), (152, [68]), (153, [67, 65, 68]), (154, [67, 68]), (155, [67, 68]), (156, [67, 68]), (157, [67, 68]), (158, [83, 68]), (159, [67, 68]), (160, [68]), (161, [83, 68]), (162, [83, 68])]
def groupsOf (c : Int) : List UInt8 := if c < 0 then [] else ((codeTable.find? fun x => x.1 == c.toNat).map (·.2)).getD []
/-- A kind's letter. -/
def letters : List (List UInt8) := [[], [], [67], [], [65], [65], [82], [82], [], [83], [], [85], [], [], [68], [88]]
def letterOf (k : Int) : List UInt8 := if k < 0 then [] else letters.getD k.toNat []
theorem groupsOf_none (c : Int) (h : ∀ k ∈ codeTable.map (·.1), c ≠ (k : Nat)) : groupsOf c = [] := by
  unfold groupsOf
  split
  · rfl
  · have e : (codeTable.find? fun x => x.1 == c.toNat) = none := by
      rw [List.find?_eq_none]
      intro x hx he
      have h1 := h x.1 (List.mem_map_of_mem hx)
      have h2 : x.1 = c.toNat := by simpa using he
      omega
    rw [e]
    rfl
end Go.Proofs.YtfkimpcaokgldaaGreatDoor
namespace Go.Proofs.YtfkimpcaokgldaaGreatDoor
open Go.RowKit

def among (l g : List UInt8) : Bool := g.any fun c => l == [c]
def allowedB (k c : Int) : Bool := among (letterOf k) (groupsOf c)
theorem ret_bool {a b : Bool} (h : a = b) : Ending.returned (.bool a) = .returned (.bool b) := by rw [h]
theorem piece (g : List UInt8) (j : Nat) (h : j < g.length) : ((⟨g.toArray⟩ : ByteArray).extract j (j + 1)).toList = [g[j]] := by
  rw [ByteArray.toList_eq]
  have e : ((⟨g.toArray⟩ : ByteArray).extract j (j + 1)).data.toList = (g.drop j).take 1 := by
    simp [ByteArray.data_extract]
  rw [e, List.drop_eq_getElem_cons h]
  rfl
theorem groups_short (c : Int) : (groupsOf c).length ≤ 7 := by
  unfold groupsOf
  split
  · simp
  · cases hf : codeTable.find? fun x => x.1 == c.toNat with
    | none => simp
    | some y =>
      have hm := List.mem_of_find?_eq_some hf
      have hall : ∀ y ∈ codeTable, y.2.length ≤ 7 := by decide
      simpa using hall y hm

def badB (c : Int) : Bool := decide (128 ≤ c ∧ c ≤ 255)
def closeOf (c : Int) : Int := if badB c && allowedB 14 c then c else 128
end Go.Proofs.YtfkimpcaokgldaaGreatDoor
namespace Go.Proofs.YtfkimpcaokgldaaGreatDoor
open Go.RowKit

section
variable {K : Act → World → Prop} {Q : Exit → Act → World → Prop} {a : Act} {w : World} {i j : Nat}
theorem e_then (h : Q (.exit i) a w) : Exit.then K Q (.exit i) a w := h
theorem e_now (h : K a w) : Exit.then K Q .normal a w := h
theorem e_same (h : Q .normal a w) : Exit.inBlock i Q (.exit i) a w := by
  show (if i = i then Q .normal a w else Q (.exit i) a w)
  rw [if_pos rfl]; exact h
theorem e_other (hn : (j == i) = false) (h : Q (.exit j) a w) : Exit.inBlock i Q (.exit j) a w := by
  show (if j = i then Q .normal a w else Q (.exit j) a w)
  rw [if_neg (by simpa using hn)]; exact h
end
def bitOf (b : UInt8) : Nat := if b = 67 then 1 else if b = 65 then 2 else if b = 82 then 4 else if b = 83 then 8 else if b = 85 then 16 else if b = 68 then 32 else 64
def maskOf (l : List UInt8) : Nat := (l.map bitOf).sum
def MaskSays (c : Int) (w : World) : Prop := Calls Tryz.prog 193 #[.int .i64 c] w fun x w' => x = .returned (.int .i64 (maskOf (groupsOf c) : Nat)) ∧ w = w'
def KindSays (k : Int) (w : World) : Prop := Calls Tryz.prog 194 #[.int .i64 k] w fun x w' => x = .returned (.int .i64 (maskOf (letterOf k) : Nat)) ∧ w = w'

set_option maxRecDepth 100000 in
theorem mask_0 (w : World) : MaskSays 0 w := by
  have e : maskOf (groupsOf 0) = 127 := by decide
  unfold MaskSays
  rw [e]
  go_enter Tryz.func193, Tryz.ntmps193
  repeat (first | (with_reducible refine e_then ?_) | (with_reducible refine e_now ?_) | (with_reducible refine e_same ?_) | ((with_reducible refine e_other ?_ ?_); (focus decide)) | go_values | go_skip | go_guarded | go_step | go_upon | go_in | go_back)
  go_ret
  exact ⟨by kernel_rfl, rfl⟩
set_option maxRecDepth 100000 in
theorem mask_1 (w : World) : MaskSays 1 w := by
  have e : maskOf (groupsOf 1) = 8 := by decide
  unfold MaskSays
  rw [e]
  go_enter Tryz.func193, Tryz.ntmps193
  repeat (first | (with_reducible refine e_then ?_) | (with_reducible refine e_now ?_) | (with_reducible refine e_same ?_) | ((with_reducible refine e_other ?_ ?_); (focus decide)) | go_values | go_skip | go_guarded | go_step | go_upon | go_in | go_back)
  go_ret
  exact ⟨by kernel_rfl, rfl⟩
set_option maxRecDepth 100000 in
theorem mask_2 (w : World) : MaskSays 2 w := by
  have e : maskOf (groupsOf 2) = 8 := by decide
  unfold MaskSays
  rw [e]
  go_enter Tryz.func193, Tryz.ntmps193
  repeat (first | (with_reducible refine e_then ?_) | (with_reducible refine e_now ?_) | (with_reducible refine e_same ?_) | ((with_reducible refine e_other ?_ ?_); (focus decide)) | go_values | go_skip | go_guarded | go_step | go_upon | go_in | go_back)
  go_ret
  exact ⟨by kernel_rfl, rfl⟩
set_option maxRecDepth 100000 in
theorem mask_4 (w : World) : MaskSays 4 w := by
  have e : maskOf (groupsOf 4) = 32 := by decide
  unfold MaskSays
  rw [e]
  go_enter Tryz.func193, Tryz.ntmps193
  repeat (first | (with_reducible refine e_then ?_) | (with_reducible refine e_now ?_) | (with_reducible refine e_same ?_) | ((with_reducible refine e_other ?_ ?_); (focus decide)) | go_values | go_skip | go_guarded | go_step | go_upon | go_in | go_back)
  go_ret
  exact ⟨by kernel_rfl, rfl⟩
set_option maxRecDepth 100000 in
theorem mask_16 (w : World) : MaskSays 16 w := by
  have e : maskOf (groupsOf 16) = 2 := by decide
  unfold MaskSays
  rw [e]
  go_enter Tryz.func193, Tryz.ntmps193
  repeat (first | (with_reducible refine e_then ?_) | (with_reducible refine e_now ?_) | (with_reducible refine e_same ?_) | ((with_reducible refine e_other ?_ ?_); (focus decide)) | go_values | go_skip | go_guarded | go_step | go_upon | go_in | go_back)
  go_ret
  exact ⟨by kernel_rfl, rfl⟩
set_option maxRecDepth 100000 in
theorem mask_17 (w : World) : MaskSays 17 w := by
  have e : maskOf (groupsOf 17) = 16 := by decide
  unfold MaskSays
  rw [e]
  go_enter Tryz.func193, Tryz.ntmps193
  repeat (first | (with_reducible refine e_then ?_) | (with_reducible refine e_now ?_) | (with_reducible refine e_same ?_) | ((with_reducible refine e_other ?_ ?_); (focus decide)) | go_values | go_skip | go_guarded | go_step | go_upon | go_in | go_back)
  go_ret
  exact ⟨by kernel_rfl, rfl⟩
set_option maxRecDepth 100000 in
theorem mask_24 (w : World) : MaskSays 24 w := by
  have e : maskOf (groupsOf 24) = 64 := by decide
  unfold MaskSays
  rw [e]
  go_enter Tryz.func193, Tryz.ntmps193
  repeat (first | (with_reducible refine e_then ?_) | (with_reducible refine e_now ?_) | (with_reducible refine e_same ?_) | ((with_reducible refine e_other ?_ ?_); (focus decide)) | go_values | go_skip | go_guarded | go_step | go_upon | go_in | go_back)
  go_ret
  exact ⟨by kernel_rfl, rfl⟩
set_option maxRecDepth 100000 in
theorem mask_25 (w : World) : MaskSays 25 w := by
  have e : maskOf (groupsOf 25) = 64 := by decide
  unfold MaskSays
  rw [e]
  go_enter Tryz.func193, Tryz.ntmps193
  repeat (first | (with_reducible refine e_then ?_) | (with_reducible refine e_now ?_) | (with_reducible refine e_same ?_) | ((with_reducible refine e_other ?_ ?_); (focus decide)) | go_values | go_skip | go_guarded | go_step | go_upon | go_in | go_back)
  go_ret
  exact ⟨by kernel_rfl, rfl⟩
set_option maxRecDepth 100000 in
theorem mask_128 (w : World) : MaskSays 128 w := by
  have e : maskOf (groupsOf 128) = 59 := by decide
  unfold MaskSays
  rw [e]
  go_enter Tryz.func193, Tryz.ntmps193
  repeat (first | (with_reducible refine e_then ?_) | (with_reducible refine e_now ?_) | (with_reducible refine e_same ?_) | ((with_reducible refine e_other ?_ ?_); (focus decide)) | go_values | go_skip | go_guarded | go_step | go_upon | go_in | go_back)
  go_ret
  exact ⟨by kernel_rfl, rfl⟩
set_option maxRecDepth 100000 in
theorem mask_129 (w : World) : MaskSays 129 w := by
  have e : maskOf (groupsOf 129) = 33 := by decide
  unfold MaskSays
  rw [e]
  go_enter Tryz.func193, Tryz.ntmps193
  repeat (first | (with_reducible refine e_then ?_) | (with_reducible refine e_now ?_) | (with_reducible refine e_same ?_) | ((with_reducible refine e_other ?_ ?_); (focus decide)) | go_values | go_skip | go_guarded | go_step | go_upon | go_in | go_back)
  go_ret
  exact ⟨by kernel_rfl, rfl⟩
set_option maxRecDepth 100000 in
theorem mask_130 (w : World) : MaskSays 130 w := by
  have e : maskOf (groupsOf 130) = 33 := by decide
  unfold MaskSays
  rw [e]
  go_enter Tryz.func193, Tryz.ntmps193
  repeat (first | (with_reducible refine e_then ?_) | (with_reducible refine e_now ?_) | (with_reducible refine e_same ?_) | ((with_reducible refine e_other ?_ ?_); (focus decide)) | go_values | go_skip | go_guarded | go_step | go_upon | go_in | go_back)
  go_ret
  exact ⟨by kernel_rfl, rfl⟩
set_option maxRecDepth 100000 in
theorem mask_131 (w : World) : MaskSays 131 w := by
  have e : maskOf (groupsOf 131) = 59 := by decide
  unfold MaskSays
  rw [e]
  go_enter Tryz.func193, Tryz.ntmps193
  repeat (first | (with_reducible refine e_then ?_) | (with_reducible refine e_now ?_) | (with_reducible refine e_same ?_) | ((with_reducible refine e_other ?_ ?_); (focus decide)) | go_values | go_skip | go_guarded | go_step | go_upon | go_in | go_back)
  go_ret
  exact ⟨by kernel_rfl, rfl⟩
set_option maxRecDepth 100000 in
theorem mask_132 (w : World) : MaskSays 132 w := by
  have e : maskOf (groupsOf 132) = 1 := by decide
  unfold MaskSays
  rw [e]
  go_enter Tryz.func193, Tryz.ntmps193
  repeat (first | (with_reducible refine e_then ?_) | (with_reducible refine e_now ?_) | (with_reducible refine e_same ?_) | ((with_reducible refine e_other ?_ ?_); (focus decide)) | go_values | go_skip | go_guarded | go_step | go_upon | go_in | go_back)
  go_ret
  exact ⟨by kernel_rfl, rfl⟩
set_option maxRecDepth 100000 in
theorem mask_133 (w : World) : MaskSays 133 w := by
  have e : maskOf (groupsOf 133) = 1 := by decide
  unfold MaskSays
  rw [e]
  go_enter Tryz.func193, Tryz.ntmps193
  repeat (first | (with_reducible refine e_then ?_) | (with_reducible refine e_now ?_) | (with_reducible refine e_same ?_) | ((with_reducible refine e_other ?_ ?_); (focus decide)) | go_values | go_skip | go_guarded | go_step | go_upon | go_in | go_back)
  go_ret
  exact ⟨by kernel_rfl, rfl⟩
set_option maxRecDepth 100000 in
theorem mask_134 (w : World) : MaskSays 134 w := by
  have e : maskOf (groupsOf 134) = 1 := by decide
  unfold MaskSays
  rw [e]
  go_enter Tryz.func193, Tryz.ntmps193
  repeat (first | (with_reducible refine e_then ?_) | (with_reducible refine e_now ?_) | (with_reducible refine e_same ?_) | ((with_reducible refine e_other ?_ ?_); (focus decide)) | go_values | go_skip | go_guarded | go_step | go_upon | go_in | go_back)
  go_ret
  exact ⟨by kernel_rfl, rfl⟩
set_option maxRecDepth 100000 in
theorem mask_135 (w : World) : MaskSays 135 w := by
  have e : maskOf (groupsOf 135) = 59 := by decide
  unfold MaskSays
  rw [e]
  go_enter Tryz.func193, Tryz.ntmps193
  repeat (first | (with_reducible refine e_then ?_) | (with_reducible refine e_now ?_) | (with_reducible refine e_same ?_) | ((with_reducible refine e_other ?_ ?_); (focus decide)) | go_values | go_skip | go_guarded | go_step | go_upon | go_in | go_back)
  go_ret
  exact ⟨by kernel_rfl, rfl⟩
set_option maxRecDepth 100000 in
theorem mask_136 (w : World) : MaskSays 136 w := by
  have e : maskOf (groupsOf 136) = 1 := by decide
  unfold MaskSays
  rw [e]
  go_enter Tryz.func193, Tryz.ntmps193
  repeat (first | (with_reducible refine e_then ?_) | (with_reducible refine e_now ?_) | (with_reducible refine e_same ?_) | ((with_reducible refine e_other ?_ ?_); (focus decide)) | go_values | go_skip | go_guarded | go_step | go_upon | go_in | go_back)
  go_ret
  exact ⟨by kernel_rfl, rfl⟩
set_option maxRecDepth 100000 in
theorem mask_137 (w : World) : MaskSays 137 w := by
  have e : maskOf (groupsOf 137) = 33 := by decide
  unfold MaskSays
  rw [e]
  go_enter Tryz.func193, Tryz.ntmps193
  repeat (first | (with_reducible refine e_then ?_) | (with_reducible refine e_now ?_) | (with_reducible refine e_same ?_) | ((with_reducible refine e_other ?_ ?_); (focus decide)) | go_values | go_skip | go_guarded | go_step | go_upon | go_in | go_back)
  go_ret
  exact ⟨by kernel_rfl, rfl⟩
set_option maxRecDepth 100000 in
theorem mask_138 (w : World) : MaskSays 138 w := by
  have e : maskOf (groupsOf 138) = 1 := by decide
  unfold MaskSays
  rw [e]
  go_enter Tryz.func193, Tryz.ntmps193
  repeat (first | (with_reducible refine e_then ?_) | (with_reducible refine e_now ?_) | (with_reducible refine e_same ?_) | ((with_reducible refine e_other ?_ ?_); (focus decide)) | go_values | go_skip | go_guarded | go_step | go_upon | go_in | go_back)
  go_ret
  exact ⟨by kernel_rfl, rfl⟩
set_option maxRecDepth 100000 in
theorem mask_139 (w : World) : MaskSays 139 w := by
  have e : maskOf (groupsOf 139) = 32 := by decide
  unfold MaskSays
  rw [e]
  go_enter Tryz.func193, Tryz.ntmps193
  repeat (first | (with_reducible refine e_then ?_) | (with_reducible refine e_now ?_) | (with_reducible refine e_same ?_) | ((with_reducible refine e_other ?_ ?_); (focus decide)) | go_values | go_skip | go_guarded | go_step | go_upon | go_in | go_back)
  go_ret
  exact ⟨by kernel_rfl, rfl⟩
set_option maxRecDepth 100000 in
theorem mask_140 (w : World) : MaskSays 140 w := by
  have e : maskOf (groupsOf 140) = 33 := by decide
  unfold MaskSays
  rw [e]
  go_enter Tryz.func193, Tryz.ntmps193
  repeat (first | (with_reducible refine e_then ?_) | (with_reducible refine e_now ?_) | (with_reducible refine e_same ?_) | ((with_reducible refine e_other ?_ ?_); (focus decide)) | go_values | go_skip | go_guarded | go_step | go_upon | go_in | go_back)
  go_ret
  exact ⟨by kernel_rfl, rfl⟩
set_option maxRecDepth 100000 in
theorem mask_141 (w : World) : MaskSays 141 w := by
  have e : maskOf (groupsOf 141) = 32 := by decide
  unfold MaskSays
  rw [e]
  go_enter Tryz.func193, Tryz.ntmps193
  repeat (first | (with_reducible refine e_then ?_) | (with_reducible refine e_now ?_) | (with_reducible refine e_same ?_) | ((with_reducible refine e_other ?_ ?_); (focus decide)) | go_values | go_skip | go_guarded | go_step | go_upon | go_in | go_back)
  go_ret
  exact ⟨by kernel_rfl, rfl⟩
set_option maxRecDepth 100000 in
theorem mask_142 (w : World) : MaskSays 142 w := by
  have e : maskOf (groupsOf 142) = 32 := by decide
  unfold MaskSays
  rw [e]
  go_enter Tryz.func193, Tryz.ntmps193
  repeat (first | (with_reducible refine e_then ?_) | (with_reducible refine e_now ?_) | (with_reducible refine e_same ?_) | ((with_reducible refine e_other ?_ ?_); (focus decide)) | go_values | go_skip | go_guarded | go_step | go_upon | go_in | go_back)
  go_ret
  exact ⟨by kernel_rfl, rfl⟩
set_option maxRecDepth 100000 in
theorem mask_143 (w : World) : MaskSays 143 w := by
  have e : maskOf (groupsOf 143) = 56 := by decide
  unfold MaskSays
  rw [e]
  go_enter Tryz.func193, Tryz.ntmps193
  repeat (first | (with_reducible refine e_then ?_) | (with_reducible refine e_now ?_) | (with_reducible refine e_same ?_) | ((with_reducible refine e_other ?_ ?_); (focus decide)) | go_values | go_skip | go_guarded | go_step | go_upon | go_in | go_back)
  go_ret
  exact ⟨by kernel_rfl, rfl⟩
set_option maxRecDepth 100000 in
theorem mask_144 (w : World) : MaskSays 144 w := by
  have e : maskOf (groupsOf 144) = 35 := by decide
  unfold MaskSays
  rw [e]
  go_enter Tryz.func193, Tryz.ntmps193
  repeat (first | (with_reducible refine e_then ?_) | (with_reducible refine e_now ?_) | (with_reducible refine e_same ?_) | ((with_reducible refine e_other ?_ ?_); (focus decide)) | go_values | go_skip | go_guarded | go_step | go_upon | go_in | go_back)
  go_ret
  exact ⟨by kernel_rfl, rfl⟩
set_option maxRecDepth 100000 in
theorem mask_145 (w : World) : MaskSays 145 w := by
  have e : maskOf (groupsOf 145) = 26 := by decide
  unfold MaskSays
  rw [e]
  go_enter Tryz.func193, Tryz.ntmps193
  repeat (first | (with_reducible refine e_then ?_) | (with_reducible refine e_now ?_) | (with_reducible refine e_same ?_) | ((with_reducible refine e_other ?_ ?_); (focus decide)) | go_values | go_skip | go_guarded | go_step | go_upon | go_in | go_back)
  go_ret
  exact ⟨by kernel_rfl, rfl⟩
set_option maxRecDepth 100000 in
theorem mask_146 (w : World) : MaskSays 146 w := by
  have e : maskOf (groupsOf 146) = 4 := by decide
  unfold MaskSays
  rw [e]
  go_enter Tryz.func193, Tryz.ntmps193
  repeat (first | (with_reducible refine e_then ?_) | (with_reducible refine e_now ?_) | (with_reducible refine e_same ?_) | ((with_reducible refine e_other ?_ ?_); (focus decide)) | go_values | go_skip | go_guarded | go_step | go_upon | go_in | go_back)
  go_ret
  exact ⟨by kernel_rfl, rfl⟩
set_option maxRecDepth 100000 in
theorem mask_147 (w : World) : MaskSays 147 w := by
  have e : maskOf (groupsOf 147) = 32 := by decide
  unfold MaskSays
  rw [e]
  go_enter Tryz.func193, Tryz.ntmps193
  repeat (first | (with_reducible refine e_then ?_) | (with_reducible refine e_now ?_) | (with_reducible refine e_same ?_) | ((with_reducible refine e_other ?_ ?_); (focus decide)) | go_values | go_skip | go_guarded | go_step | go_upon | go_in | go_back)
  go_ret
  exact ⟨by kernel_rfl, rfl⟩
set_option maxRecDepth 100000 in
theorem mask_148 (w : World) : MaskSays 148 w := by
  have e : maskOf (groupsOf 148) = 32 := by decide
  unfold MaskSays
  rw [e]
  go_enter Tryz.func193, Tryz.ntmps193
  repeat (first | (with_reducible refine e_then ?_) | (with_reducible refine e_now ?_) | (with_reducible refine e_same ?_) | ((with_reducible refine e_other ?_ ?_); (focus decide)) | go_values | go_skip | go_guarded | go_step | go_upon | go_in | go_back)
  go_ret
  exact ⟨by kernel_rfl, rfl⟩
set_option maxRecDepth 100000 in
theorem mask_149 (w : World) : MaskSays 149 w := by
  have e : maskOf (groupsOf 149) = 33 := by decide
  unfold MaskSays
  rw [e]
  go_enter Tryz.func193, Tryz.ntmps193
  repeat (first | (with_reducible refine e_then ?_) | (with_reducible refine e_now ?_) | (with_reducible refine e_same ?_) | ((with_reducible refine e_other ?_ ?_); (focus decide)) | go_values | go_skip | go_guarded | go_step | go_upon | go_in | go_back)
  go_ret
  exact ⟨by kernel_rfl, rfl⟩
set_option maxRecDepth 100000 in
theorem mask_150 (w : World) : MaskSays 150 w := by
  have e : maskOf (groupsOf 150) = 32 := by decide
  unfold MaskSays
  rw [e]
  go_enter Tryz.func193, Tryz.ntmps193
  repeat (first | (with_reducible refine e_then ?_) | (with_reducible refine e_now ?_) | (with_reducible refine e_same ?_) | ((with_reducible refine e_other ?_ ?_); (focus decide)) | go_values | go_skip | go_guarded | go_step | go_upon | go_in | go_back)
  go_ret
  exact ⟨by kernel_rfl, rfl⟩
set_option maxRecDepth 100000 in
theorem mask_151 (w : World) : MaskSays 151 w := by
  have e : maskOf (groupsOf 151) = 43 := by decide
  unfold MaskSays
  rw [e]
  go_enter Tryz.func193, Tryz.ntmps193
  repeat (first | (with_reducible refine e_then ?_) | (with_reducible refine e_now ?_) | (with_reducible refine e_same ?_) | ((with_reducible refine e_other ?_ ?_); (focus decide)) | go_values | go_skip | go_guarded | go_step | go_upon | go_in | go_back)
  go_ret
  exact ⟨by kernel_rfl, rfl⟩
set_option maxRecDepth 100000 in
theorem mask_152 (w : World) : MaskSays 152 w := by
  have e : maskOf (groupsOf 152) = 32 := by decide
  unfold MaskSays
  rw [e]
  go_enter Tryz.func193, Tryz.ntmps193
  repeat (first | (with_reducible refine e_then ?_) | (with_reducible refine e_now ?_) | (with_reducible refine e_same ?_) | ((with_reducible refine e_other ?_ ?_); (focus decide)) | go_values | go_skip | go_guarded | go_step | go_upon | go_in | go_back)
  go_ret
  exact ⟨by kernel_rfl, rfl⟩
set_option maxRecDepth 100000 in
theorem mask_153 (w : World) : MaskSays 153 w := by
  have e : maskOf (groupsOf 153) = 35 := by decide
  unfold MaskSays
  rw [e]
  go_enter Tryz.func193, Tryz.ntmps193
  repeat (first | (with_reducible refine e_then ?_) | (with_reducible refine e_now ?_) | (with_reducible refine e_same ?_) | ((with_reducible refine e_other ?_ ?_); (focus decide)) | go_values | go_skip | go_guarded | go_step | go_upon | go_in | go_back)
  go_ret
  exact ⟨by kernel_rfl, rfl⟩
set_option maxRecDepth 100000 in
theorem mask_154 (w : World) : MaskSays 154 w := by
  have e : maskOf (groupsOf 154) = 33 := by decide
  unfold MaskSays
  rw [e]
  go_enter Tryz.func193, Tryz.ntmps193
  repeat (first | (with_reducible refine e_then ?_) | (with_reducible refine e_now ?_) | (with_reducible refine e_same ?_) | ((with_reducible refine e_other ?_ ?_); (focus decide)) | go_values | go_skip | go_guarded | go_step | go_upon | go_in | go_back)
  go_ret
  exact ⟨by kernel_rfl, rfl⟩
set_option maxRecDepth 100000 in
theorem mask_155 (w : World) : MaskSays 155 w := by
  have e : maskOf (groupsOf 155) = 33 := by decide
  unfold MaskSays
  rw [e]
  go_enter Tryz.func193, Tryz.ntmps193
  repeat (first | (with_reducible refine e_then ?_) | (with_reducible refine e_now ?_) | (with_reducible refine e_same ?_) | ((with_reducible refine e_other ?_ ?_); (focus decide)) | go_values | go_skip | go_guarded | go_step | go_upon | go_in | go_back)
  go_ret
  exact ⟨by kernel_rfl, rfl⟩
set_option maxRecDepth 100000 in
theorem mask_156 (w : World) : MaskSays 156 w := by
  have e : maskOf (groupsOf 156) = 33 := by decide
  unfold MaskSays
  rw [e]
  go_enter Tryz.func193, Tryz.ntmps193
  repeat (first | (with_reducible refine e_then ?_) | (with_reducible refine e_now ?_) | (with_reducible refine e_same ?_) | ((with_reducible refine e_other ?_ ?_); (focus decide)) | go_values | go_skip | go_guarded | go_step | go_upon | go_in | go_back)
  go_ret
  exact ⟨by kernel_rfl, rfl⟩
set_option maxRecDepth 100000 in
theorem mask_157 (w : World) : MaskSays 157 w := by
  have e : maskOf (groupsOf 157) = 33 := by decide
  unfold MaskSays
  rw [e]
  go_enter Tryz.func193, Tryz.ntmps193
  repeat (first | (with_reducible refine e_then ?_) | (with_reducible refine e_now ?_) | (with_reducible refine e_same ?_) | ((with_reducible refine e_other ?_ ?_); (focus decide)) | go_values | go_skip | go_guarded | go_step | go_upon | go_in | go_back)
  go_ret
  exact ⟨by kernel_rfl, rfl⟩
set_option maxRecDepth 100000 in
theorem mask_158 (w : World) : MaskSays 158 w := by
  have e : maskOf (groupsOf 158) = 40 := by decide
  unfold MaskSays
  rw [e]
  go_enter Tryz.func193, Tryz.ntmps193
  repeat (first | (with_reducible refine e_then ?_) | (with_reducible refine e_now ?_) | (with_reducible refine e_same ?_) | ((with_reducible refine e_other ?_ ?_); (focus decide)) | go_values | go_skip | go_guarded | go_step | go_upon | go_in | go_back)
  go_ret
  exact ⟨by kernel_rfl, rfl⟩
set_option maxRecDepth 100000 in
theorem mask_159 (w : World) : MaskSays 159 w := by
  have e : maskOf (groupsOf 159) = 33 := by decide
  unfold MaskSays
  rw [e]
  go_enter Tryz.func193, Tryz.ntmps193
  repeat (first | (with_reducible refine e_then ?_) | (with_reducible refine e_now ?_) | (with_reducible refine e_same ?_) | ((with_reducible refine e_other ?_ ?_); (focus decide)) | go_values | go_skip | go_guarded | go_step | go_upon | go_in | go_back)
  go_ret
  exact ⟨by kernel_rfl, rfl⟩
set_option maxRecDepth 100000 in
theorem mask_160 (w : World) : MaskSays 160 w := by
  have e : maskOf (groupsOf 160) = 32 := by decide
  unfold MaskSays
  rw [e]
  go_enter Tryz.func193, Tryz.ntmps193
  repeat (first | (with_reducible refine e_then ?_) | (with_reducible refine e_now ?_) | (with_reducible refine e_same ?_) | ((with_reducible refine e_other ?_ ?_); (focus decide)) | go_values | go_skip | go_guarded | go_step | go_upon | go_in | go_back)
  go_ret
  exact ⟨by kernel_rfl, rfl⟩
set_option maxRecDepth 100000 in
theorem mask_161 (w : World) : MaskSays 161 w := by
  have e : maskOf (groupsOf 161) = 40 := by decide
  unfold MaskSays
  rw [e]
  go_enter Tryz.func193, Tryz.ntmps193
  repeat (first | (with_reducible refine e_then ?_) | (with_reducible refine e_now ?_) | (with_reducible refine e_same ?_) | ((with_reducible refine e_other ?_ ?_); (focus decide)) | go_values | go_skip | go_guarded | go_step | go_upon | go_in | go_back)
  go_ret
  exact ⟨by kernel_rfl, rfl⟩
set_option maxRecDepth 100000 in
theorem mask_162 (w : World) : MaskSays 162 w := by
  have e : maskOf (groupsOf 162) = 40 := by decide
  unfold MaskSays
  rw [e]
  go_enter Tryz.func193, Tryz.ntmps193
  repeat (first | (with_reducible refine e_then ?_) | (with_reducible refine e_now ?_) | (with_reducible refine e_same ?_) | ((with_reducible refine e_other ?_ ?_); (focus decide)) | go_values | go_skip | go_guarded | go_step | go_upon | go_in | go_back)
  go_ret
  exact ⟨by kernel_rfl, rfl⟩
set_option maxRecDepth 100000 in
theorem mask_none (c : Int) (w : World) (h : ∀ k ∈ codeTable.map (·.1), c ≠ (k : Nat)) : MaskSays c w := by
  have e : maskOf (groupsOf c) = 0 := by rw [groupsOf_none c h]; rfl
  have h0 : (c == 0) = false := beq_eq_false_iff_ne.2 (h 0 (by decide))
  have h1 : (c == 1) = false := beq_eq_false_iff_ne.2 (h 1 (by decide))
  have h2 : (c == 2) = false := beq_eq_false_iff_ne.2 (h 2 (by decide))
  have h3 : (c == 4) = false := beq_eq_false_iff_ne.2 (h 4 (by decide))
  have h4 : (c == 16) = false := beq_eq_false_iff_ne.2 (h 16 (by decide))
  have h5 : (c == 17) = false := beq_eq_false_iff_ne.2 (h 17 (by decide))
  have h6 : (c == 24) = false := beq_eq_false_iff_ne.2 (h 24 (by decide))
  have h7 : (c == 25) = false := beq_eq_false_iff_ne.2 (h 25 (by decide))
  have h8 : (c == 128) = false := beq_eq_false_iff_ne.2 (h 128 (by decide))
  have h9 : (c == 129) = false := beq_eq_false_iff_ne.2 (h 129 (by decide))
  have h10 : (c == 130) = false := beq_eq_false_iff_ne.2 (h 130 (by decide))
  have h11 : (c == 131) = false := beq_eq_false_iff_ne.2 (h 131 (by decide))
  have h12 : (c == 132) = false := beq_eq_false_iff_ne.2 (h 132 (by decide))
  have h13 : (c == 133) = false := beq_eq_false_iff_ne.2 (h 133 (by decide))
  have h14 : (c == 134) = false := beq_eq_false_iff_ne.2 (h 134 (by decide))
  have h15 : (c == 135) = false := beq_eq_false_iff_ne.2 (h 135 (by decide))
  have h16 : (c == 136) = false := beq_eq_false_iff_ne.2 (h 136 (by decide))
  have h17 : (c == 137) = false := beq_eq_false_iff_ne.2 (h 137 (by decide))
  have h18 : (c == 138) = false := beq_eq_false_iff_ne.2 (h 138 (by decide))
  have h19 : (c == 139) = false := beq_eq_false_iff_ne.2 (h 139 (by decide))
  have h20 : (c == 140) = false := beq_eq_false_iff_ne.2 (h 140 (by decide))
  have h21 : (c == 141) = false := beq_eq_false_iff_ne.2 (h 141 (by decide))
  have h22 : (c == 142) = false := beq_eq_false_iff_ne.2 (h 142 (by decide))
  have h23 : (c == 143) = false := beq_eq_false_iff_ne.2 (h 143 (by decide))
  have h24 : (c == 144) = false := beq_eq_false_iff_ne.2 (h 144 (by decide))
  have h25 : (c == 145) = false := beq_eq_false_iff_ne.2 (h 145 (by decide))
  have h26 : (c == 146) = false := beq_eq_false_iff_ne.2 (h 146 (by decide))
  have h27 : (c == 147) = false := beq_eq_false_iff_ne.2 (h 147 (by decide))
  have h28 : (c == 148) = false := beq_eq_false_iff_ne.2 (h 148 (by decide))
  have h29 : (c == 149) = false := beq_eq_false_iff_ne.2 (h 149 (by decide))
  have h30 : (c == 150) = false := beq_eq_false_iff_ne.2 (h 150 (by decide))
  have h31 : (c == 151) = false := beq_eq_false_iff_ne.2 (h 151 (by decide))
  have h32 : (c == 152) = false := beq_eq_false_iff_ne.2 (h 152 (by decide))
  have h33 : (c == 153) = false := beq_eq_false_iff_ne.2 (h 153 (by decide))
  have h34 : (c == 154) = false := beq_eq_false_iff_ne.2 (h 154 (by decide))
  have h35 : (c == 155) = false := beq_eq_false_iff_ne.2 (h 155 (by decide))
  have h36 : (c == 156) = false := beq_eq_false_iff_ne.2 (h 156 (by decide))
  have h37 : (c == 157) = false := beq_eq_false_iff_ne.2 (h 157 (by decide))
  have h38 : (c == 158) = false := beq_eq_false_iff_ne.2 (h 158 (by decide))
  have h39 : (c == 159) = false := beq_eq_false_iff_ne.2 (h 159 (by decide))
  have h40 : (c == 160) = false := beq_eq_false_iff_ne.2 (h 160 (by decide))
  have h41 : (c == 161) = false := beq_eq_false_iff_ne.2 (h 161 (by decide))
  have h42 : (c == 162) = false := beq_eq_false_iff_ne.2 (h 162 (by decide))
  unfold MaskSays
  rw [e]
  clear h e
  go_enter Tryz.func193, Tryz.ntmps193
  repeat (first | (with_reducible refine e_then ?_) | (with_reducible refine e_now ?_) | (with_reducible refine e_same ?_) | ((with_reducible refine e_other ?_ ?_); (focus decide)) | go_values | go_skip | go_guarded | go_step | go_upon | go_in | go_back)
  go_ret
  exact ⟨rfl, rfl⟩
theorem mask_any (c : Int) (w : World) : MaskSays c w := by
  by_cases h : ∀ k ∈ codeTable.map (·.1), c ≠ (k : Nat)
  · exact mask_none c w h
  · have h' : ∃ k ∈ codeTable.map (·.1), c = (k : Nat) := by
      simp only [Classical.not_forall, Classical.not_not] at h
      obtain ⟨k, hk, e⟩ := h
      exact ⟨k, hk, e⟩
    obtain ⟨k, hk, rfl⟩ := h'
    simp only [codeTable, List.map_cons, List.map_nil, List.mem_cons, List.not_mem_nil, or_false] at hk
    rcases hk with rfl | rfl | rfl | rfl | rfl | rfl | rfl | rfl | rfl | rfl | rfl | rfl | rfl | rfl | rfl | rfl | rfl | rfl | rfl | rfl | rfl | rfl | rfl | rfl | rfl | rfl | rfl | rfl | rfl | rfl | rfl | rfl | rfl | rfl | rfl | rfl | rfl | rfl | rfl | rfl | rfl | rfl | rfl
    · exact mask_0 w
    · exact mask_1 w
    · exact mask_2 w
    · exact mask_4 w
    · exact mask_16 w
    · exact mask_17 w
    · exact mask_24 w
    · exact mask_25 w
    · exact mask_128 w
    · exact mask_129 w
    · exact mask_130 w
    · exact mask_131 w
    · exact mask_132 w
    · exact mask_133 w
    · exact mask_134 w
    · exact mask_135 w
    · exact mask_136 w
    · exact mask_137 w
    · exact mask_138 w
    · exact mask_139 w
    · exact mask_140 w
    · exact mask_141 w
    · exact mask_142 w
    · exact mask_143 w
    · exact mask_144 w
    · exact mask_145 w
    · exact mask_146 w
    · exact mask_147 w
    · exact mask_148 w
    · exact mask_149 w
    · exact mask_150 w
    · exact mask_151 w
    · exact mask_152 w
    · exact mask_153 w
    · exact mask_154 w
    · exact mask_155 w
    · exact mask_156 w
    · exact mask_157 w
    · exact mask_158 w
    · exact mask_159 w
    · exact mask_160 w
    · exact mask_161 w
    · exact mask_162 w
theorem kind_2 (w : World) : KindSays 2 w := by
  have e : maskOf (letterOf 2) = 1 := by decide
  unfold KindSays
  rw [e]
  go_enter Tryz.func194, Tryz.ntmps194
  go_wp2
  go_ret
  exact ⟨rfl, rfl⟩
theorem kind_4 (w : World) : KindSays 4 w := by
  have e : maskOf (letterOf 4) = 2 := by decide
  unfold KindSays
  rw [e]
  go_enter Tryz.func194, Tryz.ntmps194
  go_wp2
  go_ret
  exact ⟨rfl, rfl⟩
theorem kind_5 (w : World) : KindSays 5 w := by
  have e : maskOf (letterOf 5) = 2 := by decide
  unfold KindSays
  rw [e]
  go_enter Tryz.func194, Tryz.ntmps194
  go_wp2
  go_ret
  exact ⟨rfl, rfl⟩
theorem kind_6 (w : World) : KindSays 6 w := by
  have e : maskOf (letterOf 6) = 4 := by decide
  unfold KindSays
  rw [e]
  go_enter Tryz.func194, Tryz.ntmps194
  go_wp2
  go_ret
  exact ⟨rfl, rfl⟩
theorem kind_7 (w : World) : KindSays 7 w := by
  have e : maskOf (letterOf 7) = 4 := by decide
  unfold KindSays
  rw [e]
  go_enter Tryz.func194, Tryz.ntmps194
  go_wp2
  go_ret
  exact ⟨rfl, rfl⟩
theorem kind_9 (w : World) : KindSays 9 w := by
  have e : maskOf (letterOf 9) = 8 := by decide
  unfold KindSays
  rw [e]
  go_enter Tryz.func194, Tryz.ntmps194
  go_wp2
  go_ret
  exact ⟨rfl, rfl⟩
theorem kind_11 (w : World) : KindSays 11 w := by
  have e : maskOf (letterOf 11) = 16 := by decide
  unfold KindSays
  rw [e]
  go_enter Tryz.func194, Tryz.ntmps194
  go_wp2
  go_ret
  exact ⟨rfl, rfl⟩
theorem kind_14 (w : World) : KindSays 14 w := by
  have e : maskOf (letterOf 14) = 32 := by decide
  unfold KindSays
  rw [e]
  go_enter Tryz.func194, Tryz.ntmps194
  go_wp2
  go_ret
  exact ⟨rfl, rfl⟩
theorem kind_15 (w : World) : KindSays 15 w := by
  have e : maskOf (letterOf 15) = 64 := by decide
  unfold KindSays
  rw [e]
  go_enter Tryz.func194, Tryz.ntmps194
  go_wp2
  go_ret
  exact ⟨rfl, rfl⟩
theorem letter_no (k : Int) (h : k ≠ 2 ∧ k ≠ 4 ∧ k ≠ 5 ∧ k ≠ 6 ∧ k ≠ 7 ∧ k ≠ 9 ∧ k ≠ 11 ∧ k ≠ 14 ∧ k ≠ 15) : letterOf k = [] := by
  unfold letterOf
  split
  · rfl
  · rename_i h0
    obtain ⟨n, rfl⟩ : ∃ n : Nat, k = (n : Int) := ⟨k.toNat, by omega⟩
    rw [Int.toNat_natCast]
    by_cases hj : n < 16
    · have key : ∀ j, j < 16 → (j = 2 ∨ j = 4 ∨ j = 5 ∨ j = 6 ∨ j = 7 ∨ j = 9 ∨ j = 11 ∨ j = 14 ∨ j = 15 ∨ letters.getD j [] = []) := by decide
      obtain ⟨q2, q4, q5, q6, q7, q9, q11, q14, q15⟩ := h
      rcases key n hj with e | e | e | e | e | e | e | e | e | e
      iterate 9 (first | exact e | exact absurd e (by omega))
      exact e
    · have : letters.length ≤ n := by show 16 ≤ n; omega
      rw [List.getD_eq_getElem?_getD, List.getElem?_eq_none this]
      rfl
theorem kind_none (k : Int) (w : World) (h : k ≠ 2 ∧ k ≠ 4 ∧ k ≠ 5 ∧ k ≠ 6 ∧ k ≠ 7 ∧ k ≠ 9 ∧ k ≠ 11 ∧ k ≠ 14 ∧ k ≠ 15) : KindSays k w := by
  have e : maskOf (letterOf k) = 0 := by rw [letter_no k h]; rfl
  obtain ⟨g2, g4, g5, g6, g7, g9, g11, g14, g15⟩ := h
  have h2 : (k == 2) = false := beq_eq_false_iff_ne.2 g2
  have h4 : (k == 4) = false := beq_eq_false_iff_ne.2 g4
  have h5 : (k == 5) = false := beq_eq_false_iff_ne.2 g5
  have h6 : (k == 6) = false := beq_eq_false_iff_ne.2 g6
  have h7 : (k == 7) = false := beq_eq_false_iff_ne.2 g7
  have h9 : (k == 9) = false := beq_eq_false_iff_ne.2 g9
  have h11 : (k == 11) = false := beq_eq_false_iff_ne.2 g11
  have h14 : (k == 14) = false := beq_eq_false_iff_ne.2 g14
  have h15 : (k == 15) = false := beq_eq_false_iff_ne.2 g15
  unfold KindSays
  rw [e]
  clear e g2 g4 g5 g6 g7 g9 g11 g14 g15
  go_enter Tryz.func194, Tryz.ntmps194
  go_wp2
  go_ret
  exact ⟨rfl, rfl⟩
theorem kind_any (k : Int) (w : World) : KindSays k w := by
  by_cases h : k ≠ 2 ∧ k ≠ 4 ∧ k ≠ 5 ∧ k ≠ 6 ∧ k ≠ 7 ∧ k ≠ 9 ∧ k ≠ 11 ∧ k ≠ 14 ∧ k ≠ 15
  · exact kind_none k w h
  · rcases (show k = 2 ∨ k = 4 ∨ k = 5 ∨ k = 6 ∨ k = 7 ∨ k = 9 ∨ k = 11 ∨ k = 14 ∨ k = 15 by omega) with rfl | rfl | rfl | rfl | rfl | rfl | rfl | rfl | rfl
    · exact kind_2 w
    · exact kind_4 w
    · exact kind_5 w
    · exact kind_6 w
    · exact kind_7 w
    · exact kind_9 w
    · exact kind_11 w
    · exact kind_14 w
    · exact kind_15 w
end Go.Proofs.YtfkimpcaokgldaaGreatDoor
namespace Go.Proofs.YtfkimpcaokgldaaGreatDoor
open Go.RowKit

theorem mask_pairs : ∀ g ∈ [] :: codeTable.map (·.2), ∀ l ∈ letters, (bits BinOp.and IntKind.i64 (maskOf g : Nat) (maskOf l : Nat) != 0) = among l g := by decide +kernel
theorem groups_in (c : Int) : groupsOf c ∈ [] :: codeTable.map (·.2) := by
  unfold groupsOf
  split
  · exact List.mem_cons_self ..
  · cases hf : codeTable.find? fun x => x.1 == c.toNat with
    | none => exact List.mem_cons_self ..
    | some y => exact List.mem_cons_of_mem _ (List.mem_map_of_mem (List.mem_of_find?_eq_some hf))
theorem letter_in (k : Int) : letterOf k ∈ letters := by
  unfold letterOf
  split
  · decide
  · by_cases hj : k.toNat < letters.length
    · rw [List.getD_eq_getElem?_getD, List.getElem?_eq_getElem hj]
      exact List.getElem_mem hj
    · rw [List.getD_eq_getElem?_getD, List.getElem?_eq_none (by omega)]
      show [] ∈ letters
      decide

set_option maxHeartbeats 1000000 in
theorem rs_allowed (k c : Int) (w : World) : Calls Tryz.prog 179 #[.int .i64 k, .int .i64 c] w fun x w' => x = .returned (.bool (allowedB k c)) ∧ w = w' := by
  have H1 := Lib.hid (fun w => mask_any c w)
  have H2 := Lib.hid (fun w => kind_any k w)
  have H3 := Lib.hid (mask_pairs _ (groups_in c) _ (letter_in k))
  unfold allowedB
  unfold MaskSays at H1
  unfold KindSays at H2
  generalize maskOf (groupsOf c) = m1 at *
  generalize maskOf (letterOf k) = m2 at *
  go_enter Tryz.func179, Tryz.ntmps179
  go_wp2_with fail
  refine (H1.out _).mono ?_
  rintro x w1 ⟨rfl, rfl⟩
  go_wp2_with fail
  refine (H2.out _).mono ?_
  rintro x w1 ⟨rfl, rfl⟩
  go_wp2
  go_ret
  exact ⟨ret_bool H3.out, rfl⟩

end Go.Proofs.YtfkimpcaokgldaaGreatDoor
