/- What is proved here: whether something may be told (the document's May). No conditions. What is proved here, of whatever program: the blocks of a call's own seen from a later world, so that what stands elsewhere (a row of properties) lasts to the end. No conditions. -/
import Derived.Test.YtnolnhpmpjgnaaaGreatDoorSto34
import Derived.Test.YtnolnhpmpjgnaaaGreatDoorVcs34
import Derived.Test.YtnolnhpmpjgnaaaGreatDoorPrp
namespace Go.Proofs.YtnolnhpmpjgnaaaGreatDoor
set_option maxRecDepth 100000
open Go.RowKit Go.Extern.Stop Go.Stop Go.Extern
set_option maxHeartbeats 4000000 in
theorem rmay34_any (o : OV) (A : Option Addr) (c : Nat) (w : World) : Calls Tryz.prog 35 #[o.agg A c] w fun x w' => x = .returned (.bool (decide (1 ≤ o.kind ∧ o.kind ≤ 3) && mayO o)) ∧ Below w.heap.size w w' := by
  obtain ⟨q, hq⟩ : ∃ q, q = (decide (1 ≤ o.kind ∧ o.kind ≤ 3) && mayO o) := ⟨_, rfl⟩
  rw [← hq]
  unfold mayO mayA mayM at hq
  unfold OV.agg
  obtain ⟨kd, gr, sq, ⟨m1, m2, m3, m4, m5, m6, m7, m8, m9⟩⟩ := o
  simp only at hq ⊢
  have HQ := Lib.hid hq
  have HO := Lib.hid (Own.start [] w)
  clear hq
  go_enter Tryz.func35, Tryz.ntmps35
  go_upto_region 1 with (first | (refine wpo_box (t := 27) HO.out _ rfl rfl rfl ?_; clear HO; rintro k1 W1 hO; have HO := Lib.hid hO; clear hO; simp only [Act.put, List.setIfInBounds_toArray, List.set_cons_zero, List.set_cons_succ]))
  have k0 := (HO.out.get 0 rfl).cell 0
  have k1' := (HO.out.get 0 rfl).cell 1
  have k2 := (HO.out.get 0 rfl).cell 2
  replace k0 : W1.cell? ⟨k1, 0, none⟩ = some (.int .i64 kd) := k0
  replace k1' : W1.cell? ⟨k1, 1, none⟩ = some (.string gr) := k1'
  replace k2 : W1.cell? ⟨k1, 2, none⟩ = some (.int .i64 sq) := k2
  by_cases ha : kd < 1
  · obtain rfl : q = false := by rw [HQ.out]; simp; omega
    clear HQ
    go_wp2
    go_ret
    exact ⟨rfl, HO.out.bel⟩
  by_cases hb : 3 < kd
  · obtain rfl : q = false := by rw [HQ.out]; simp; omega
    clear HQ
    go_wp2
    go_ret
    exact ⟨rfl, HO.out.bel⟩
  by_cases h3 : (gr.toList == []) = true
  · obtain rfl : q = false := by rw [HQ.out, h3]; simp
    clear HQ
    go_wp2
    go_ret
    exact ⟨rfl, HO.out.bel⟩
  by_cases h1 : sq < 1
  · obtain rfl : q = false := by rw [HQ.out]; simp; omega
    clear HQ
    go_wp2
    go_ret
    exact ⟨rfl, HO.out.bel⟩
  by_cases h2 : 4294967295 < sq
  · obtain rfl : q = false := by rw [HQ.out]; simp; omega
    clear HQ
    go_wp2
    go_ret
    exact ⟨rfl, HO.out.bel⟩
  have h3' : (gr.toList == []) = false := by simpa using h3
  rw [show (decide (1 ≤ kd ∧ kd ≤ 3)) = true by simp; omega, show (decide (1 ≤ sq ∧ sq ≤ 4294967295)) = true by simp; omega, h3'] at HQ
  clear h3
  have HX := Lib.hid (show q = (decide (kd ≠ 1) || (decide (0 ≤ m3 ∧ m3 ≤ 2 ∧ 0 ≤ m7 ∧ m7 ≤ 9007199254740992) && (m9.toList == gr.toList) && decide (m8 = sq))) by rw [HQ.out]; simp)
  clear HQ
  go_upto_region 4 with (first | (refine wpo_ldm tyM (HO.out.get 0 rfl) 3 (c := #[.string m1, .string m2, .int .i64 m3, .bool m4, .slice A m5.length c, .string m6, .int .i64 m7, .int .i64 m8, .string m9]) rfl (by intro j hj; have hj : j < 9 := hj; match j, hj with | 0, _ => rfl | 1, _ => rfl | 2, _ => rfl | 3, _ => rfl | 4, _ => rfl | 5, _ => rfl | 6, _ => rfl | 7, _ => rfl | 8, _ => rfl) _ rfl rfl rfl ?_) | (refine wpo_alloc tyM HO.out rfl rfl ?_; clear HO; rintro k4 W4 hO; have HO := Lib.hid hO; clear hO; simp only [Act.put, List.setIfInBounds_toArray, List.set_cons_zero, List.set_cons_succ]) | (refine wpo_store (k := k4) HO.out 0 tyM rfl _ _ rfl rfl rfl rfl rfl rfl rfl ?_; clear HO; rintro W5 hO; have HO := Lib.hid hO; clear hO; simp only [Act.put]))
  clear k0 k1' k2
  have k0 : W5.cell? ⟨k1, 0, none⟩ = some (.int .i64 kd) := (HO.out.get 1 rfl).cell 0
  have k1' : W5.cell? ⟨k1, 1, none⟩ = some (.string gr) := (HO.out.get 1 rfl).cell 1
  have k2 : W5.cell? ⟨k1, 2, none⟩ = some (.int .i64 sq) := (HO.out.get 1 rfl).cell 2
  have c2 : W5.cell? ⟨k4, 2, none⟩ = some (.int .i64 m3) := (HO.out.get 0 rfl).cell 2
  have c6 : W5.cell? ⟨k4, 6, none⟩ = some (.int .i64 m7) := (HO.out.get 0 rfl).cell 6
  have c7 : W5.cell? ⟨k4, 7, none⟩ = some (.int .i64 m8) := (HO.out.get 0 rfl).cell 7
  have c8 : W5.cell? ⟨k4, 8, none⟩ = some (.string m9) := (HO.out.get 0 rfl).cell 8
  by_cases g0 : kd = 1
  case neg =>
    have e0 : (kd == 1) = false := by simpa using g0
    obtain rfl : q = true := by rw [HX.out]; simp [g0]
    go_wp2
    go_ret
    exact ⟨rfl, HO.out.bel⟩
  subst g0
  by_cases g5 : (m9.toList == gr.toList) = true
  case neg =>
    have g5 : (m9.toList == gr.toList) = false := by simpa using g5
    obtain rfl : q = false := by rw [HX.out, g5]; simp
    go_wp2
    go_ret
    exact ⟨rfl, HO.out.bel⟩
  rw [g5] at HX
  by_cases g6 : m8 = sq
  case neg =>
    have e6 : (m8 == sq) = false := by simpa using g6
    obtain rfl : q = false := by rw [HX.out]; simp [g6]
    clear HX
    go_wp2
    go_ret
    exact ⟨rfl, HO.out.bel⟩
  have e6 : (m8 == sq) = true := by simpa using g6
  rw [show (decide (m8 = sq)) = true by simpa using g6] at HX
  clear g6
  by_cases g1 : m3 < 0
  · obtain rfl : q = false := by rw [HX.out]; simp; omega
    go_wp2
    go_ret
    exact ⟨rfl, HO.out.bel⟩
  by_cases g2 : 2 < m3
  · obtain rfl : q = false := by rw [HX.out]; simp; omega
    go_wp2
    go_ret
    exact ⟨rfl, HO.out.bel⟩
  by_cases g3 : m7 < 0
  · obtain rfl : q = false := by rw [HX.out]; simp; omega
    go_wp2
    go_ret
    exact ⟨rfl, HO.out.bel⟩
  by_cases g4 : 9007199254740992 < m7
  · have d4 : ¬ m7 ≤ 9007199254740992 := by omega
    obtain rfl : q = false := by rw [HX.out]; simp; omega
    go_wp2
    go_ret
    exact ⟨rfl, HO.out.bel⟩
  obtain rfl : q = true := by rw [HX.out]; simp; omega
  have d4 : m7 ≤ 9007199254740992 := by omega
  clear HX
  go_wp2
  go_ret
  exact ⟨rfl, HO.out.bel⟩
end Go.Proofs.YtnolnhpmpjgnaaaGreatDoor
namespace Go.Proofs.YtnolnhpmpjgnaaaGreatDoor
open Go.RowKit Go.Extern.Stop Go.Stop Go.Extern
section
variable {w0 w w' : World} {L L2 : OL} {A : Option Addr} {M : PL}
theorem Own.rebase (h : Own [] w0 w L) : Own (L.map (·.1)) w w L :=
  ⟨Fr.refl _ _, h.blk, fun _ hx => .inl (List.mem_map_of_mem hx), h.nd⟩
theorem Own.back (h : Own [] w0 w L) (h2 : Own (L.map (·.1)) w w' L2) : Own [] w0 w' L2 := by
  have hX : ∀ b ∈ L.map (·.1), w0.heap.size ≤ b := by
    intro b hb
    obtain ⟨x, hx, rfl⟩ := List.mem_map.mp hb
    rcases h.new x hx with h1 | h1
    · cases h1
    · exact h1
  refine ⟨h.fr.trans h2.fr fun b hb hlt => ?_, h2.blk, fun x hx => .inr ?_, h2.nd⟩
  · have := hX b hb
    omega
  · rcases h2.new x hx with h1 | h1
    · exact hX _ h1
    · exact Nat.le_trans h.size h1
theorem Own.pin (h : Own [] w0 w L) (h2 : Own (L.map (·.1)) w w' L2) (ht : (L.all fun x => !decide (x.2.1 = 98)) = true) (hp : PIn w 0 A M) : PIn w' 0 A M := by
  rw [List.all_eq_true] at ht
  refine hp.fr h2.fr fun b hb => ⟨Nat.zero_le _, fun cs hh => ?_⟩
  obtain ⟨x, hx, rfl⟩ := List.mem_map.mp hb
  exact (h.blk x hx).other hh (by simpa using ht x hx) rfl
end
end Go.Proofs.YtnolnhpmpjgnaaaGreatDoor
