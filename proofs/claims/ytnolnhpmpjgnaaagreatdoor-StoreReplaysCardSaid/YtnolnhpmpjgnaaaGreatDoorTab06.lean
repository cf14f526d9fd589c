/- What is proved here: the tables of package prop: types, places, numbers. No conditions. -/
import Derived.Test.YtnolnhpmpjgnaaaGreatDoorPrp
namespace Go.Proofs.YtnolnhpmpjgnaaaGreatDoor
set_option maxRecDepth 100000
open Go.RowKit Go.Extern.Stop Go.Stop Go.Extern
/-- All identifiers. -/
def ids06 : List Int := [1, 2, 3, 8, 9, 11, 17, 18, 19, 21, 22, 23, 24, 25, 26, 28, 31, 33, 34, 35, 36, 37, 38, 39, 40, 41, 42]
def typeI (i : Int) : Nat :=
  if i ∈ [1, 23, 25, 36, 37, 40, 41, (42 : Int)] then 1 else if i ∈ [19, 33, 34, (35 : Int)] then 2 else if i ∈ [2, 17, 24, (39 : Int)] then 4 else if i = 11 then 5
  else if i ∈ [3, 8, 18, 21, 26, 28, (31 : Int)] then 6 else if i ∈ [9, (22 : Int)] then 7 else if i = 38 then 9 else 0
def placesI (i : Int) : List Int :=
  if i ∈ [1, 2, 3, 8, (9 : Int)] then [3, 16] else if i = 11 then [3, 8] else if i = 17 then [1, 2, 14] else if i ∈ [18, 19, 26, 36, 37, 40, 41, (42 : Int)] then [2]
  else if i ∈ [21, (22 : Int)] then [1, 2, 15] else if i ∈ [23, (25 : Int)] then [1] else if i = 24 then [16] else if i = 28 then [2, 14] else if i = 31 then [2, 4, 5, 6, 7, 9, 11, 14, 15]
  else if i ∈ [33, 34, (39 : Int)] then [1, 2] else if i = 35 then [3] else if i = 38 then [1, 2, 3, 4, 5, 6, 7, 8, 9, 10, 11, 14, 15, 16] else []
def allowI (i p : Int) : Bool := decide (p ∈ placesI i)
def sevI (i p : Int) : Bool := decide (i = 38) || (decide (i = 11) && decide (p = 3))
def numI (i n : Int) : Bool := if i ∈ [1, 23, 25, 36, 37, 40, 41, (42 : Int)] then decide (n = 0) || decide (n = 1) else if i ∈ [11, 33, 35, (39 : Int)] then decide (0 < n) else true
theorem no_ids {i : Int} (h : i ∉ ids06) : ((((i == 1) = false ∧ (i == 2) = false ∧ (i == 3) = false ∧ (i == 8) = false ∧ (i == 9) = false ∧ (i == 11) = false ∧ (i == 17) = false) ∧ ((i == 18) = false ∧ (i == 19) = false ∧ (i == 21) = false ∧ (i == 22) = false ∧ (i == 23) = false ∧ (i == 24) = false ∧ (i == 25) = false)) ∧
    (((i == 26) = false ∧ (i == 28) = false ∧ (i == 31) = false ∧ (i == 33) = false ∧ (i == 34) = false ∧ (i == 35) = false ∧ (i == 36) = false) ∧ ((i == 37) = false ∧ (i == 38) = false ∧ (i == 39) = false ∧ (i == 40) = false ∧ (i == 41) = false ∧ (i == 42) = false))) := by
  unfold ids06 at h
  simp only [List.mem_cons, List.not_mem_nil, or_false, not_or] at h
  simp only [beq_eq_false_iff_ne, ne_eq]
  exact ⟨⟨⟨by omega, by omega, by omega, by omega, by omega, by omega, by omega⟩, by omega, by omega, by omega, by omega, by omega, by omega, by omega⟩, ⟨by omega, by omega, by omega, by omega, by omega, by omega, by omega⟩, by omega, by omega, by omega, by omega, by omega, by omega⟩
theorem no_type {i : Int} (h : i ∉ ids06) : typeI i = 0 ∧ placesI i = [] ∧ ∀ n, numI i n = true := by
  unfold ids06 at h
  simp only [List.mem_cons, List.not_mem_nil, or_false, not_or] at h
  unfold typeI placesI numI
  simp only [List.mem_cons, List.not_mem_nil, or_false]
  refine ⟨?_, ?_, fun n => ?_⟩
  · repeat rw [if_neg (by omega)]
  · repeat rw [if_neg (by omega)]
  · repeat rw [if_neg (by omega)]
section
variable {w : World}
set_option maxHeartbeats 4000000 in
theorem ptype_any (i : Int) (w : World) : Calls Tryz.prog 115 #[.int .i64 i] w fun x w' => x = .returned (.int .i64 (typeI i : Int)) ∧ w = w' := by
  by_cases h : i ∈ ids06
  · unfold ids06 at h
    simp only [List.mem_cons, List.not_mem_nil, or_false] at h
    rcases h with rfl | rfl | rfl | rfl | rfl | rfl | rfl | rfl | rfl | rfl | rfl | rfl | rfl | rfl | rfl | rfl | rfl | rfl | rfl | rfl | rfl | rfl | rfl | rfl | rfl | rfl | rfl
    all_goals
      go_enter Tryz.func115, Tryz.ntmps115
      go_wp2
      go_ret
      exact ⟨rfl, rfl⟩
  · obtain ⟨⟨⟨a1, a2, a3, a4, a5, a6, a7⟩, b1, b2, b3, b4, b5, b6, b7⟩, ⟨c1, c2, c3, c4, c5, c6, c7⟩, d1, d2, d3, d4, d5, d6⟩ := no_ids h
    have HT := Lib.hid (no_type h).1
    clear h
    go_enter Tryz.func115, Tryz.ntmps115
    go_wp2
    go_ret
    rw [HT.out]
    exact ⟨rfl, rfl⟩
set_option maxHeartbeats 4000000 in
theorem rtype06_any (i : Int) (w : World) : Calls Tryz.prog 78 #[.int .i64 i] w fun x w' => x = .returned (.int .i64 (typeI i : Int)) ∧ w = w' := by
  by_cases h : i ∈ ids06
  · unfold ids06 at h
    simp only [List.mem_cons, List.not_mem_nil, or_false] at h
    rcases h with rfl | rfl | rfl | rfl | rfl | rfl | rfl | rfl | rfl | rfl | rfl | rfl | rfl | rfl | rfl | rfl | rfl | rfl | rfl | rfl | rfl | rfl | rfl | rfl | rfl | rfl | rfl
    all_goals
      go_enter Tryz.func78, Tryz.ntmps78
      go_wp2
      go_ret
      exact ⟨rfl, rfl⟩
  · obtain ⟨⟨⟨a1, a2, a3, a4, a5, a6, a7⟩, b1, b2, b3, b4, b5, b6, b7⟩, ⟨c1, c2, c3, c4, c5, c6, c7⟩, d1, d2, d3, d4, d5, d6⟩ := no_ids h
    have HT := Lib.hid (no_type h).1
    clear h
    go_enter Tryz.func78, Tryz.ntmps78
    go_wp2
    go_ret
    rw [HT.out]
    exact ⟨rfl, rfl⟩
end
end Go.Proofs.YtnolnhpmpjgnaaaGreatDoor
