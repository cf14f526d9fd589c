/- What is proved here: the document's own groups of a code, the letter of a kind, and whether a kind may have a code, are what plain lists say. No conditions. -/
import Derived.Test.YthaelhaijeegjaaGreatDoorLib
import Derived.WalkKit
import Derived.Lib.Hide
import Derived.Below
import Derived.Deep.LoopGhost
import Derived.WalkSpells
import Derived.WalkLawsBesides
import Derived.Outline
import Derived.IntWalk
namespace Go.Proofs.YthaelhaijeegjaaGreatDoor
open Go.RowKit

/-- The table: a code's groups. -/
def codeTable : List (Nat × List UInt8) := [(0, [67, 65, 82, 83, 85, 68, 88]), (1, [83]), (2, [83]), (4, [68]), (16, [65]), (17, [85]), (24, [88]), (25, [88]), (128, [67, 65, 83, 85, 68]), (129, [67, 68]), (130, [67, 68]), (131, [67, 65, 83, 85, 68]), (132, [67]), (133, [67]), (134, [67]), (135, [67, 65, 83, 85, 68]), (136, [67]), (137, [67, 68]), (138, [67]), (139, [68]), (140, [67, 68]), (141, [68]), (142, [68]), (143, [83, 85, 68]), (144, [67, 65, 68]), (145, [65, 83, 85]), (146, [82]), (147, [68]), (148, [68]), (149, [67, 68]), (150, [68]), (151, [67, 65, 83, 68]), (152, [68]), (153, [67, 65, 68]), (154, [67, 68]), (155, [67, 68]), (156, [67, 68]), (157, [67, 68]), (158, [83, 68]), (159, [67, 68]), (160, [68]), (161, [83, 68]), (162, [83, 68])]
def groupsOf (c : Int) : List UInt8 := if c < 0 then [] else ((codeTable.find? fun x => x.1 == c.toNat).map (·.2)).getD []
/-- A kind's letter. -/
def letters : List (List UInt8) := [[], [], [67], [], [65], [65], [82], [82], [], [83], [], [85], [], [], [68], [88]]
def letterOf (k : Int) : List UInt8 := if k < 0 then [] else letters.getD k.toNat []
def GroupsSays (c : Int) (w : World) : Prop := Calls Tryz.prog 112 #[.int .i64 c] w fun x w' => x = .returned (.string ⟨(groupsOf c).toArray⟩) ∧ w = w'
def LetterSays (k : Int) (w : World) : Prop := Calls Tryz.prog 113 #[.int .i64 k] w fun x w' => x = .returned (.string ⟨(letterOf k).toArray⟩) ∧ Below w.heap.size w w'
theorem groups_0 (w : World) : GroupsSays 0 w := by
  have e : groupsOf 0 = [67, 65, 82, 83, 85, 68, 88] := by decide
  unfold GroupsSays
  rw [e]
  go_enter Tryz.func112, Tryz.ntmps112
  go_wp2
  go_ret
  exact ⟨rfl, rfl⟩
theorem groups_1 (w : World) : GroupsSays 1 w := by
  have e : groupsOf 1 = [83] := by decide
  unfold GroupsSays
  rw [e]
  go_enter Tryz.func112, Tryz.ntmps112
  go_wp2
  go_ret
  exact ⟨rfl, rfl⟩
theorem groups_2 (w : World) : GroupsSays 2 w := by
  have e : groupsOf 2 = [83] := by decide
  unfold GroupsSays
  rw [e]
  go_enter Tryz.func112, Tryz.ntmps112
  go_wp2
  go_ret
  exact ⟨rfl, rfl⟩
theorem groups_4 (w : World) : GroupsSays 4 w := by
  have e : groupsOf 4 = [68] := by decide
  unfold GroupsSays
  rw [e]
  go_enter Tryz.func112, Tryz.ntmps112
  go_wp2
  go_ret
  exact ⟨rfl, rfl⟩
theorem groups_16 (w : World) : GroupsSays 16 w := by
  have e : groupsOf 16 = [65] := by decide
  unfold GroupsSays
  rw [e]
  go_enter Tryz.func112, Tryz.ntmps112
  go_wp2
  go_ret
  exact ⟨rfl, rfl⟩
theorem groups_17 (w : World) : GroupsSays 17 w := by
  have e : groupsOf 17 = [85] := by decide
  unfold GroupsSays
  rw [e]
  go_enter Tryz.func112, Tryz.ntmps112
  go_wp2
  go_ret
  exact ⟨rfl, rfl⟩
theorem groups_24 (w : World) : GroupsSays 24 w := by
  have e : groupsOf 24 = [88] := by decide
  unfold GroupsSays
  rw [e]
  go_enter Tryz.func112, Tryz.ntmps112
  go_wp2
  go_ret
  exact ⟨rfl, rfl⟩
theorem groups_25 (w : World) : GroupsSays 25 w := by
  have e : groupsOf 25 = [88] := by decide
  unfold GroupsSays
  rw [e]
  go_enter Tryz.func112, Tryz.ntmps112
  go_wp2
  go_ret
  exact ⟨rfl, rfl⟩
theorem groups_128 (w : World) : GroupsSays 128 w := by
  have e : groupsOf 128 = [67, 65, 83, 85, 68] := by decide
  unfold GroupsSays
  rw [e]
  go_enter Tryz.func112, Tryz.ntmps112
  go_wp2
  go_ret
  exact ⟨rfl, rfl⟩
theorem groups_129 (w : World) : GroupsSays 129 w := by
  have e : groupsOf 129 = [67, 68] := by decide
  unfold GroupsSays
  rw [e]
  go_enter Tryz.func112, Tryz.ntmps112
  go_wp2
  go_ret
  exact ⟨rfl, rfl⟩
theorem groups_130 (w : World) : GroupsSays 130 w := by
  have e : groupsOf 130 = [67, 68] := by decide
  unfold GroupsSays
  rw [e]
  go_enter Tryz.func112, Tryz.ntmps112
  go_wp2
  go_ret
  exact ⟨rfl, rfl⟩
theorem groups_131 (w : World) : GroupsSays 131 w := by
  have e : groupsOf 131 = [67, 65, 83, 85, 68] := by decide
  unfold GroupsSays
  rw [e]
  go_enter Tryz.func112, Tryz.ntmps112
  go_wp2
  go_ret
  exact ⟨rfl, rfl⟩
theorem groups_132 (w : World) : GroupsSays 132 w := by
  have e : groupsOf 132 = [67] := by decide
  unfold GroupsSays
  rw [e]
  go_enter Tryz.func112, Tryz.ntmps112
  go_wp2
  go_ret
  exact ⟨rfl, rfl⟩
theorem groups_133 (w : World) : GroupsSays 133 w := by
  have e : groupsOf 133 = [67] := by decide
  unfold GroupsSays
  rw [e]
  go_enter Tryz.func112, Tryz.ntmps112
  go_wp2
  go_ret
  exact ⟨rfl, rfl⟩
theorem groups_134 (w : World) : GroupsSays 134 w := by
  have e : groupsOf 134 = [67] := by decide
  unfold GroupsSays
  rw [e]
  go_enter Tryz.func112, Tryz.ntmps112
  go_wp2
  go_ret
  exact ⟨rfl, rfl⟩
theorem groups_135 (w : World) : GroupsSays 135 w := by
  have e : groupsOf 135 = [67, 65, 83, 85, 68] := by decide
  unfold GroupsSays
  rw [e]
  go_enter Tryz.func112, Tryz.ntmps112
  go_wp2
  go_ret
  exact ⟨rfl, rfl⟩
theorem groups_136 (w : World) : GroupsSays 136 w := by
  have e : groupsOf 136 = [67] := by decide
  unfold GroupsSays
  rw [e]
  go_enter Tryz.func112, Tryz.ntmps112
  go_wp2
  go_ret
  exact ⟨rfl, rfl⟩
theorem groups_137 (w : World) : GroupsSays 137 w := by
  have e : groupsOf 137 = [67, 68] := by decide
  unfold GroupsSays
  rw [e]
  go_enter Tryz.func112, Tryz.ntmps112
  go_wp2
  go_ret
  exact ⟨rfl, rfl⟩
theorem groups_138 (w : World) : GroupsSays 138 w := by
  have e : groupsOf 138 = [67] := by decide
  unfold GroupsSays
  rw [e]
  go_enter Tryz.func112, Tryz.ntmps112
  go_wp2
  go_ret
  exact ⟨rfl, rfl⟩
theorem groups_139 (w : World) : GroupsSays 139 w := by
  have e : groupsOf 139 = [68] := by decide
  unfold GroupsSays
  rw [e]
  go_enter Tryz.func112, Tryz.ntmps112
  go_wp2
  go_ret
  exact ⟨rfl, rfl⟩
theorem groups_140 (w : World) : GroupsSays 140 w := by
  have e : groupsOf 140 = [67, 68] := by decide
  unfold GroupsSays
  rw [e]
  go_enter Tryz.func112, Tryz.ntmps112
  go_wp2
  go_ret
  exact ⟨rfl, rfl⟩
theorem groups_141 (w : World) : GroupsSays 141 w := by
  have e : groupsOf 141 = [68] := by decide
  unfold GroupsSays
  rw [e]
  go_enter Tryz.func112, Tryz.ntmps112
  go_wp2
  go_ret
  exact ⟨rfl, rfl⟩
theorem groups_142 (w : World) : GroupsSays 142 w := by
  have e : groupsOf 142 = [68] := by decide
  unfold GroupsSays
  rw [e]
  go_enter Tryz.func112, Tryz.ntmps112
  go_wp2
  go_ret
  exact ⟨rfl, rfl⟩
theorem groups_143 (w : World) : GroupsSays 143 w := by
  have e : groupsOf 143 = [83, 85, 68] := by decide
  unfold GroupsSays
  rw [e]
  go_enter Tryz.func112, Tryz.ntmps112
  go_wp2
  go_ret
  exact ⟨rfl, rfl⟩
theorem groups_144 (w : World) : GroupsSays 144 w := by
  have e : groupsOf 144 = [67, 65, 68] := by decide
  unfold GroupsSays
  rw [e]
  go_enter Tryz.func112, Tryz.ntmps112
  go_wp2
  go_ret
  exact ⟨rfl, rfl⟩
theorem groups_145 (w : World) : GroupsSays 145 w := by
  have e : groupsOf 145 = [65, 83, 85] := by decide
  unfold GroupsSays
  rw [e]
  go_enter Tryz.func112, Tryz.ntmps112
  go_wp2
  go_ret
  exact ⟨rfl, rfl⟩
theorem groups_146 (w : World) : GroupsSays 146 w := by
  have e : groupsOf 146 = [82] := by decide
  unfold GroupsSays
  rw [e]
  go_enter Tryz.func112, Tryz.ntmps112
  go_wp2
  go_ret
  exact ⟨rfl, rfl⟩
theorem groups_147 (w : World) : GroupsSays 147 w := by
  have e : groupsOf 147 = [68] := by decide
  unfold GroupsSays
  rw [e]
  go_enter Tryz.func112, Tryz.ntmps112
  go_wp2
  go_ret
  exact ⟨rfl, rfl⟩
theorem groups_148 (w : World) : GroupsSays 148 w := by
  have e : groupsOf 148 = [68] := by decide
  unfold GroupsSays
  rw [e]
  go_enter Tryz.func112, Tryz.ntmps112
  go_wp2
  go_ret
  exact ⟨rfl, rfl⟩
theorem groups_149 (w : World) : GroupsSays 149 w := by
  have e : groupsOf 149 = [67, 68] := by decide
  unfold GroupsSays
  rw [e]
  go_enter Tryz.func112, Tryz.ntmps112
  go_wp2
  go_ret
  exact ⟨rfl, rfl⟩
theorem groups_150 (w : World) : GroupsSays 150 w := by
  have e : groupsOf 150 = [68] := by decide
  unfold GroupsSays
  rw [e]
  go_enter Tryz.func112, Tryz.ntmps112
  go_wp2
  go_ret
  exact ⟨rfl, rfl⟩
theorem groups_151 (w : World) : GroupsSays 151 w := by
  have e : groupsOf 151 = [67, 65, 83, 68] := by decide
  unfold GroupsSays
  rw [e]
  go_enter Tryz.func112, Tryz.ntmps112
  go_wp2
  go_ret
  exact ⟨rfl, rfl⟩
theorem groups_152 (w : World) : GroupsSays 152 w := by
  have e : groupsOf 152 = [68] := by decide
  unfold GroupsSays
  rw [e]
  go_enter Tryz.func112, Tryz.ntmps112
  go_wp2
  go_ret
  exact ⟨rfl, rfl⟩
theorem groups_153 (w : World) : GroupsSays 153 w := by
  have e : groupsOf 153 = [67, 65, 68] := by decide
  unfold GroupsSays
  rw [e]
  go_enter Tryz.func112, Tryz.ntmps112
  go_wp2
  go_ret
  exact ⟨rfl, rfl⟩
theorem groups_154 (w : World) : GroupsSays 154 w := by
  have e : groupsOf 154 = [67, 68] := by decide
  unfold GroupsSays
  rw [e]
  go_enter Tryz.func112, Tryz.ntmps112
  go_wp2
  go_ret
  exact ⟨rfl, rfl⟩
theorem groups_155 (w : World) : GroupsSays 155 w := by
  have e : groupsOf 155 = [67, 68] := by decide
  unfold GroupsSays
  rw [e]
  go_enter Tryz.func112, Tryz.ntmps112
  go_wp2
  go_ret
  exact ⟨rfl, rfl⟩
theorem groups_156 (w : World) : GroupsSays 156 w := by
  have e : groupsOf 156 = [67, 68] := by decide
  unfold GroupsSays
  rw [e]
  go_enter Tryz.func112, Tryz.ntmps112
  go_wp2
  go_ret
  exact ⟨rfl, rfl⟩
theorem groups_157 (w : World) : GroupsSays 157 w := by
  have e : groupsOf 157 = [67, 68] := by decide
  unfold GroupsSays
  rw [e]
  go_enter Tryz.func112, Tryz.ntmps112
  go_wp2
  go_ret
  exact ⟨rfl, rfl⟩
theorem groups_158 (w : World) : GroupsSays 158 w := by
  have e : groupsOf 158 = [83, 68] := by decide
  unfold GroupsSays
  rw [e]
  go_enter Tryz.func112, Tryz.ntmps112
  go_wp2
  go_ret
  exact ⟨rfl, rfl⟩
theorem groups_159 (w : World) : GroupsSays 159 w := by
  have e : groupsOf 159 = [67, 68] := by decide
  unfold GroupsSays
  rw [e]
  go_enter Tryz.func112, Tryz.ntmps112
  go_wp2
  go_ret
  exact ⟨rfl, rfl⟩
theorem groups_160 (w : World) : GroupsSays 160 w := by
  have e : groupsOf 160 = [68] := by decide
  unfold GroupsSays
  rw [e]
  go_enter Tryz.func112, Tryz.ntmps112
  go_wp2
  go_ret
  exact ⟨rfl, rfl⟩
theorem groups_161 (w : World) : GroupsSays 161 w := by
  have e : groupsOf 161 = [83, 68] := by decide
  unfold GroupsSays
  rw [e]
  go_enter Tryz.func112, Tryz.ntmps112
  go_wp2
  go_ret
  exact ⟨rfl, rfl⟩
theorem groups_162 (w : World) : GroupsSays 162 w := by
  have e : groupsOf 162 = [83, 68] := by decide
  unfold GroupsSays
  rw [e]
  go_enter Tryz.func112, Tryz.ntmps112
  go_wp2
  go_ret
  exact ⟨rfl, rfl⟩
theorem groupsOf_none (c : Int) (h : ∀ k ∈ codeTable.map (·.1), c ≠ (k : Nat)) : groupsOf c = [] := by
  unfold groupsOf
  split
  · rfl
  · have e : (codeTable.find? fun x => x.1 == c.toNat) = none := by
      rw [List.find?_eq_none]
      intro x hx he
      have h1 := h x.1 (List.mem_map_of_mem hx)
      have h2 : x.1 = c.toNat := by simpa using he
      omega
    rw [e]
    rfl
set_option maxRecDepth 100000 in
theorem groups_none (c : Int) (w : World) (h : ∀ k ∈ codeTable.map (·.1), c ≠ (k : Nat)) : GroupsSays c w := by
  have e := groupsOf_none c h
  have h0 : (c == 0) = false := beq_eq_false_iff_ne.2 (h 0 (by decide))
  have h1 : (c == 1) = false := beq_eq_false_iff_ne.2 (h 1 (by decide))
  have h2 : (c == 2) = false := beq_eq_false_iff_ne.2 (h 2 (by decide))
  have h3 : (c == 4) = false := beq_eq_false_iff_ne.2 (h 4 (by decide))
  have h4 : (c == 16) = false := beq_eq_false_iff_ne.2 (h 16 (by decide))
  have h5 : (c == 17) = false := beq_eq_false_iff_ne.2 (h 17 (by decide))
  have h6 : (c == 24) = false := beq_eq_false_iff_ne.2 (h 24 (by decide))
  have h7 : (c == 25) = false := beq_eq_false_iff_ne.2 (h 25 (by decide))
  have h8 : (c == 128) = false := beq_eq_false_iff_ne.2 (h 128 (by decide))
  have h9 : (c == 129) = false := beq_eq_false_iff_ne.2 (h 129 (by decide))
  have h10 : (c == 130) = false := beq_eq_false_iff_ne.2 (h 130 (by decide))
  have h11 : (c == 131) = false := beq_eq_false_iff_ne.2 (h 131 (by decide))
  have h12 : (c == 132) = false := beq_eq_false_iff_ne.2 (h 132 (by decide))
  have h13 : (c == 133) = false := beq_eq_false_iff_ne.2 (h 133 (by decide))
  have h14 : (c == 134) = false := beq_eq_false_iff_ne.2 (h 134 (by decide))
  have h15 : (c == 135) = false := beq_eq_false_iff_ne.2 (h 135 (by decide))
  have h16 : (c == 136) = false := beq_eq_false_iff_ne.2 (h 136 (by decide))
  have h17 : (c == 137) = false := beq_eq_false_iff_ne.2 (h 137 (by decide))
  have h18 : (c == 138) = false := beq_eq_false_iff_ne.2 (h 138 (by decide))
  have h19 : (c == 139) = false := beq_eq_false_iff_ne.2 (h 139 (by decide))
  have h20 : (c == 140) = false := beq_eq_false_iff_ne.2 (h 140 (by decide))
  have h21 : (c == 141) = false := beq_eq_false_iff_ne.2 (h 141 (by decide))
  have h22 : (c == 142) = false := beq_eq_false_iff_ne.2 (h 142 (by decide))
  have h23 : (c == 143) = false := beq_eq_false_iff_ne.2 (h 143 (by decide))
  have h24 : (c == 144) = false := beq_eq_false_iff_ne.2 (h 144 (by decide))
  have h25 : (c == 145) = false := beq_eq_false_iff_ne.2 (h 145 (by decide))
  have h26 : (c == 146) = false := beq_eq_false_iff_ne.2 (h 146 (by decide))
  have h27 : (c == 147) = false := beq_eq_false_iff_ne.2 (h 147 (by decide))
  have h28 : (c == 148) = false := beq_eq_false_iff_ne.2 (h 148 (by decide))
  have h29 : (c == 149) = false := beq_eq_false_iff_ne.2 (h 149 (by decide))
  have h30 : (c == 150) = false := beq_eq_false_iff_ne.2 (h 150 (by decide))
  have h31 : (c == 151) = false := beq_eq_false_iff_ne.2 (h 151 (by decide))
  have h32 : (c == 152) = false := beq_eq_false_iff_ne.2 (h 152 (by decide))
  have h33 : (c == 153) = false := beq_eq_false_iff_ne.2 (h 153 (by decide))
  have h34 : (c == 154) = false := beq_eq_false_iff_ne.2 (h 154 (by decide))
  have h35 : (c == 155) = false := beq_eq_false_iff_ne.2 (h 155 (by decide))
  have h36 : (c == 156) = false := beq_eq_false_iff_ne.2 (h 156 (by decide))
  have h37 : (c == 157) = false := beq_eq_false_iff_ne.2 (h 157 (by decide))
  have h38 : (c == 158) = false := beq_eq_false_iff_ne.2 (h 158 (by decide))
  have h39 : (c == 159) = false := beq_eq_false_iff_ne.2 (h 159 (by decide))
  have h40 : (c == 160) = false := beq_eq_false_iff_ne.2 (h 160 (by decide))
  have h41 : (c == 161) = false := beq_eq_false_iff_ne.2 (h 161 (by decide))
  have h42 : (c == 162) = false := beq_eq_false_iff_ne.2 (h 162 (by decide))
  clear h
  unfold GroupsSays
  rw [e]
  clear e
  go_enter Tryz.func112, Tryz.ntmps112
  go_wp2
  go_ret
  exact ⟨rfl, rfl⟩
theorem groups_any (c : Int) (w : World) : GroupsSays c w := by
  by_cases h : ∀ k ∈ codeTable.map (·.1), c ≠ (k : Nat)
  · exact groups_none c w h
  · have h' : ∃ k ∈ codeTable.map (·.1), c = (k : Nat) := by
      simp only [Classical.not_forall, Classical.not_not] at h
      obtain ⟨k, hk, e⟩ := h
      exact ⟨k, hk, e⟩
    obtain ⟨k, hk, rfl⟩ := h'
    simp only [codeTable, List.map_cons, List.map_nil, List.mem_cons, List.not_mem_nil, or_false] at hk
    rcases hk with rfl | rfl | rfl | rfl | rfl | rfl | rfl | rfl | rfl | rfl | rfl | rfl | rfl | rfl | rfl | rfl | rfl | rfl | rfl | rfl | rfl | rfl | rfl | rfl | rfl | rfl | rfl | rfl | rfl | rfl | rfl | rfl | rfl | rfl | rfl | rfl | rfl | rfl | rfl | rfl | rfl | rfl | rfl
    · exact groups_0 w
    · exact groups_1 w
    · exact groups_2 w
    · exact groups_4 w
    · exact groups_16 w
    · exact groups_17 w
    · exact groups_24 w
    · exact groups_25 w
    · exact groups_128 w
    · exact groups_129 w
    · exact groups_130 w
    · exact groups_131 w
    · exact groups_132 w
    · exact groups_133 w
    · exact groups_134 w
    · exact groups_135 w
    · exact groups_136 w
    · exact groups_137 w
    · exact groups_138 w
    · exact groups_139 w
    · exact groups_140 w
    · exact groups_141 w
    · exact groups_142 w
    · exact groups_143 w
    · exact groups_144 w
    · exact groups_145 w
    · exact groups_146 w
    · exact groups_147 w
    · exact groups_148 w
    · exact groups_149 w
    · exact groups_150 w
    · exact groups_151 w
    · exact groups_152 w
    · exact groups_153 w
    · exact groups_154 w
    · exact groups_155 w
    · exact groups_156 w
    · exact groups_157 w
    · exact groups_158 w
    · exact groups_159 w
    · exact groups_160 w
    · exact groups_161 w
    · exact groups_162 w
theorem letter_1 (w : World) : LetterSays 1 w := by
  have e : letterOf 1 = [] := by decide
  unfold LetterSays
  rw [e]
  go_enter Tryz.func113, Tryz.ntmps113
  go_wp2
  go_ret
  exact ⟨rfl, (Below.refl _ _).alloc (Nat.le_refl _) _⟩
theorem letter_2 (w : World) : LetterSays 2 w := by
  have e : letterOf 2 = [67] := by decide
  unfold LetterSays
  rw [e]
  go_enter Tryz.func113, Tryz.ntmps113
  go_wp2
  go_ret
  exact ⟨rfl, (Below.refl _ _).alloc (Nat.le_refl _) _⟩
theorem letter_3 (w : World) : LetterSays 3 w := by
  have e : letterOf 3 = [] := by decide
  unfold LetterSays
  rw [e]
  go_enter Tryz.func113, Tryz.ntmps113
  go_wp2
  go_ret
  exact ⟨rfl, (Below.refl _ _).alloc (Nat.le_refl _) _⟩
theorem letter_4 (w : World) : LetterSays 4 w := by
  have e : letterOf 4 = [65] := by decide
  unfold LetterSays
  rw [e]
  go_enter Tryz.func113, Tryz.ntmps113
  go_wp2
  go_ret
  exact ⟨rfl, (Below.refl _ _).alloc (Nat.le_refl _) _⟩
theorem letter_5 (w : World) : LetterSays 5 w := by
  have e : letterOf 5 = [65] := by decide
  unfold LetterSays
  rw [e]
  go_enter Tryz.func113, Tryz.ntmps113
  go_wp2
  go_ret
  exact ⟨rfl, (Below.refl _ _).alloc (Nat.le_refl _) _⟩
theorem letter_6 (w : World) : LetterSays 6 w := by
  have e : letterOf 6 = [82] := by decide
  unfold LetterSays
  rw [e]
  go_enter Tryz.func113, Tryz.ntmps113
  go_wp2
  go_ret
  exact ⟨rfl, (Below.refl _ _).alloc (Nat.le_refl _) _⟩
theorem letter_7 (w : World) : LetterSays 7 w := by
  have e : letterOf 7 = [82] := by decide
  unfold LetterSays
  rw [e]
  go_enter Tryz.func113, Tryz.ntmps113
  go_wp2
  go_ret
  exact ⟨rfl, (Below.refl _ _).alloc (Nat.le_refl _) _⟩
theorem letter_8 (w : World) : LetterSays 8 w := by
  have e : letterOf 8 = [] := by decide
  unfold LetterSays
  rw [e]
  go_enter Tryz.func113, Tryz.ntmps113
  go_wp2
  go_ret
  exact ⟨rfl, (Below.refl _ _).alloc (Nat.le_refl _) _⟩
theorem letter_9 (w : World) : LetterSays 9 w := by
  have e : letterOf 9 = [83] := by decide
  unfold LetterSays
  rw [e]
  go_enter Tryz.func113, Tryz.ntmps113
  go_wp2
  go_ret
  exact ⟨rfl, (Below.refl _ _).alloc (Nat.le_refl _) _⟩
theorem letter_10 (w : World) : LetterSays 10 w := by
  have e : letterOf 10 = [] := by decide
  unfold LetterSays
  rw [e]
  go_enter Tryz.func113, Tryz.ntmps113
  go_wp2
  go_ret
  exact ⟨rfl, (Below.refl _ _).alloc (Nat.le_refl _) _⟩
theorem letter_11 (w : World) : LetterSays 11 w := by
  have e : letterOf 11 = [85] := by decide
  unfold LetterSays
  rw [e]
  go_enter Tryz.func113, Tryz.ntmps113
  go_wp2
  go_ret
  exact ⟨rfl, (Below.refl _ _).alloc (Nat.le_refl _) _⟩
theorem letter_12 (w : World) : LetterSays 12 w := by
  have e : letterOf 12 = [] := by decide
  unfold LetterSays
  rw [e]
  go_enter Tryz.func113, Tryz.ntmps113
  go_wp2
  go_ret
  exact ⟨rfl, (Below.refl _ _).alloc (Nat.le_refl _) _⟩
theorem letter_13 (w : World) : LetterSays 13 w := by
  have e : letterOf 13 = [] := by decide
  unfold LetterSays
  rw [e]
  go_enter Tryz.func113, Tryz.ntmps113
  go_wp2
  go_ret
  exact ⟨rfl, (Below.refl _ _).alloc (Nat.le_refl _) _⟩
theorem letter_14 (w : World) : LetterSays 14 w := by
  have e : letterOf 14 = [68] := by decide
  unfold LetterSays
  rw [e]
  go_enter Tryz.func113, Tryz.ntmps113
  go_wp2
  go_ret
  exact ⟨rfl, (Below.refl _ _).alloc (Nat.le_refl _) _⟩
theorem letter_15 (w : World) : LetterSays 15 w := by
  have e : letterOf 15 = [88] := by decide
  unfold LetterSays
  rw [e]
  go_enter Tryz.func113, Tryz.ntmps113
  go_wp2
  go_ret
  exact ⟨rfl, (Below.refl _ _).alloc (Nat.le_refl _) _⟩
theorem letter_none (k : Int) (w : World) (h : k < 1 ∨ 15 < k) : LetterSays k w := by
  have e : letterOf k = [] := by
    unfold letterOf
    split
    · rfl
    · rcases h with h | h
      · obtain rfl : k = 0 := by omega
        rfl
      · have : letters.length ≤ k.toNat := by show 16 ≤ k.toNat; omega
        simp [List.getD, List.getElem?_eq_none this]
  unfold LetterSays
  rw [e]
  clear e
  rcases h with h | h
  · go_enter Tryz.func113, Tryz.ntmps113
    go_wp2
    go_ret
    exact ⟨rfl, Below.refl _ _⟩
  · have h1 : 1 ≤ k := by omega
    go_enter Tryz.func113, Tryz.ntmps113
    go_wp2
    go_ret
    exact ⟨rfl, Below.refl _ _⟩
theorem letter_any (k : Int) (w : World) : LetterSays k w := by
  by_cases h : k < 1 ∨ 15 < k
  · exact letter_none k w h
  · rcases (show k = 1 ∨ k = 2 ∨ k = 3 ∨ k = 4 ∨ k = 5 ∨ k = 6 ∨ k = 7 ∨ k = 8 ∨ k = 9 ∨ k = 10 ∨ k = 11 ∨ k = 12 ∨ k = 13 ∨ k = 14 ∨ k = 15 by omega) with rfl | rfl | rfl | rfl | rfl | rfl | rfl | rfl | rfl | rfl | rfl | rfl | rfl | rfl | rfl
    · exact letter_1 w
    · exact letter_2 w
    · exact letter_3 w
    · exact letter_4 w
    · exact letter_5 w
    · exact letter_6 w
    · exact letter_7 w
    · exact letter_8 w
    · exact letter_9 w
    · exact letter_10 w
    · exact letter_11 w
    · exact letter_12 w
    · exact letter_13 w
    · exact letter_14 w
    · exact letter_15 w
end Go.Proofs.YthaelhaijeegjaaGreatDoor
