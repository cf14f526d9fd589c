/- What is proved here: what must come of records at given values comes. Condition: what the rows list of the package's variables. -/
import Derived.Test.YtnolnhpmpjgnaaaGreatDoorRwt34
import Derived.Test.YtnolnhpmpjgnaaaGreatDoorSmo34
namespace Go.Proofs.YtnolnhpmpjgnaaaGreatDoor
set_option maxRecDepth 100000
open Go.RowKit Go.Extern.Stop Go.Stop Go.Extern
def mA : MV := ⟨⟨#[116]⟩, ⟨#[120]⟩, 1, false, [], e0, 1099511627776, 2, ⟨#[103]⟩⟩
def oA : OV := ⟨1, ⟨#[103]⟩, 2, mA⟩
def oB : OV := ⟨2, ⟨#[103]⟩, 2, m0⟩
def sA : ByteArray := ⟨#[1, 0, 1, 103, 0, 0, 0, 2, 0, 1, 116, 0, 1, 120, 1, 0, 0, 0, 0, 1, 0, 0, 0, 0, 0, 0]⟩
def sB : ByteArray := ⟨#[2, 0, 1, 103, 0, 0, 0, 2]⟩
def sC : ByteArray := ⟨#[98, 97, 100]⟩
theorem pt_A : ptF oA = ⟨0, 129, 0, [1, 0, 1, 103, 0, 0, 0, 2, 0, 1, 116, 0, 1, 120, 1, 0, 0, 0, 0, 1, 0, 0, 0, 0, 0, 0]⟩ := by kernel_rfl
theorem pt_B : ptF oB = ⟨0, 129, 0, [2, 0, 1, 103, 0, 0, 0, 2]⟩ := by kernel_rfl
theorem tk_A : tkF sA = ⟨0, 0, 0, oA⟩ := by kernel_rfl
theorem rp_1 : lfP (rpF [sA, sC]).pr 0 (rpF [sA, sC]).all = [mA] ∧ (rpF [sA, sC]).last = 2 := ⟨by kernel_rfl, by kernel_rfl⟩
theorem rp_2 : lfP (rpF [sA, sB]).pr 0 (rpF [sA, sB]).all = [] := by kernel_rfl
theorem rw_2 : (rwF [mA] 2).length = 2 := by kernel_rfl
theorem smp_nil : SmallP [] := ⟨Nat.zero_le _, (fun p hp => by cases hp), fun k => by rw [List.take_nil]; exact Nat.zero_le _⟩
theorem small_A : SmallO oA := ⟨by decide, by decide, by decide, by decide, smp_nil⟩
theorem small_B : SmallO oB := ⟨by decide, by decide, by decide, by decide, smp_nil⟩
theorem map_one {Q : QL} {m : MV} (h : Q.map QV.m = [m]) : ∃ q, Q = [q] ∧ q.m = m := by
  cases Q with
  | nil => simp at h
  | cons q l =>
    cases l with
    | nil => exact ⟨q, rfl, by simpa using h⟩
    | cons => simp at h
theorem mrd_A (W : World) : MRd (W.alloc (.cells (QV.cells ⟨mA, none, 0⟩).toArray 25)) (some ⟨W.heap.size, 0, none⟩) [⟨mA, none, 0⟩] := fun _ => ⟨W.heap.size, 0, rfl, fun k hk => by
  have hk0 : k = 0 := by simpa using hk
  subst hk0
  refine QCells.of fun i hi => ?_
  rw [show 0 + 0 * 9 + i = i by omega]
  exact ((Blk.made W 25 (QV.cells ⟨mA, none, 0⟩).toArray).cell i).trans (by simp)⟩
theorem srd_two (W : World) (s t : ByteArray) : SRd (W.alloc (.cells #[.string s, .string t] 9)) (some ⟨W.heap.size, 0, none⟩) [s, t] := fun _ => ⟨W.heap.size, 0, rfl, fun k hk => by
  have hk2 : k < 2 := hk
  have hb := Blk.made W 9 #[.string s, .string t]
  match k, hk2 with
  | 0, _ => exact hb.cell 0
  | 1, _ => exact hb.cell 1⟩
set_option maxHeartbeats 8000000 in
theorem awake34 {w : World} {S : Nat → Addr} (hE : Env w S) : Calls Tryz.prog 6 #[] w fun x w' => x = .returned (.bool true) ∧ Below w.heap.size w w' := by
  have HE := Lib.hid hE
  have HO := Lib.hid (Own.start [] w)
  clear hE
  go_enter Tryz.func6, Tryz.ntmps6
  go_wp2_with (first
    | (refine wpo_built (l := [(0, .string ⟨#[116]⟩), (1, .string ⟨#[120]⟩), (2, .int .i64 1), (8, .string ⟨#[103]⟩), (7, .int .i64 2), (6, .int .i64 1099511627776)]) (c := #[.string ⟨#[116]⟩, .string ⟨#[120]⟩, .int .i64 1, .bool false, .slice none 0 0, .string ⟨#[]⟩, .int .i64 1099511627776, .int .i64 2, .string ⟨#[103]⟩]) (by kernel_rfl) rfl rfl rfl ?_)
    | (refine wpo_alloc tyM HO.out rfl rfl ?_; clear HO; rintro k1 W1 hO; have HO := Lib.hid hO; clear hO; simp only [Act.put, List.setIfInBounds_toArray, List.set_cons_zero, List.set_cons_succ])
    | (refine wpo_store (k := k1) HO.out 0 tyM rfl _ _ rfl rfl rfl rfl rfl rfl rfl ?_; clear HO; rintro W2 hO; have HO := Lib.hid hO; clear hO; simp only [Act.put])
    | (refine wpo_load HO.out 0 tyM rfl rfl _ rfl rfl rfl ?_)
    | (refine wpo_built (l := [(0, .int .i64 1), (1, .string ⟨#[103]⟩), (2, .int .i64 2), (3, .agg #[.string ⟨#[116]⟩, .string ⟨#[120]⟩, .int .i64 1, .bool false, .slice none 0 0, .string ⟨#[]⟩, .int .i64 1099511627776, .int .i64 2, .string ⟨#[103]⟩])]) (c := #[.int .i64 1, .string ⟨#[103]⟩, .int .i64 2, .string ⟨#[116]⟩, .string ⟨#[120]⟩, .int .i64 1, .bool false, .slice none 0 0, .string ⟨#[]⟩, .int .i64 1099511627776, .int .i64 2, .string ⟨#[103]⟩]) (by kernel_rfl) rfl rfl rfl ?_))
  have h1 := put34_any (Bp := 0) (HE.out.later HO.out.bel) oA none 0 (Nat.zero_le _) (PIn.nil _ _ _) (Nat.le_refl _) small_A
  rw [pt_A] at h1
  refine h1.mono ?_
  clear h1
  rintro x W3 ⟨e, rfl, he, hb⟩
  obtain rfl : e = .nilIface := he
  have hO := HO.out.below hb
  clear HO hb
  have HO := Lib.hid hO
  clear hO
  go_wp2_with (first
    | (refine wpo_built (l := [(0, .int .i64 2), (1, .string ⟨#[103]⟩), (2, .int .i64 2)]) (c := #[.int .i64 2, .string ⟨#[103]⟩, .int .i64 2, .string ⟨#[]⟩, .string ⟨#[]⟩, .int .i64 0, .bool false, .slice none 0 0, .string ⟨#[]⟩, .int .i64 0, .int .i64 0, .string ⟨#[]⟩]) (by kernel_rfl) rfl rfl rfl ?_))
  have h1 := put34_any (Bp := 0) (HE.out.later HO.out.bel) oB none 0 (Nat.zero_le _) (PIn.nil _ _ _) (Nat.le_refl _) small_B
  rw [pt_B] at h1
  refine h1.mono ?_
  clear h1
  rintro x W4 ⟨e, rfl, he, hb⟩
  obtain rfl : e = .nilIface := he
  have hO := HO.out.below hb
  clear HO hb
  have HO := Lib.hid hO
  clear hO
  go_wp2_with fail
  have h1 := take34_any (s := sA) (HE.out.later HO.out.bel) (by decide)
  rw [tk_A] at h1
  refine h1.mono ?_
  clear h1
  rintro x W5 ⟨Ap, cp, e, rfl, hP, hcap, he, hb⟩
  obtain rfl : e = .nilIface := he
  have hO := HO.out.below hb
  clear HO hb hcap hP
  have HO := Lib.hid hO
  clear hO
  rw [show OV.agg oA Ap cp = .agg #[.int .i64 1, .string ⟨#[103]⟩, .int .i64 2, .string ⟨#[116]⟩, .string ⟨#[120]⟩, .int .i64 1, .bool false, .slice Ap 0 cp, .string ⟨#[]⟩, .int .i64 1099511627776, .int .i64 2, .string ⟨#[103]⟩] from rfl]
  go_upto_region 5 with (first
    | (refine wpo_alloc tyO HO.out rfl rfl ?_; clear HO; rintro k6 W6 hO; have HO := Lib.hid hO; clear hO; simp only [Act.put, List.setIfInBounds_toArray, List.set_cons_zero, List.set_cons_succ])
    | (refine wpo_store (k := k6) HO.out 0 tyO rfl _ _ rfl rfl rfl rfl rfl rfl rfl ?_; clear HO; rintro W7 hO; have HO := Lib.hid hO; clear hO; simp only [Act.put]))
  go_wp2_with fail
  have hal : Below W7.heap.size W7 (W7.alloc (.cells #[.string sA, .string sC] 9)) := (Below.refl _ _).alloc (Nat.le_refl _) _
  have h1 := replay_any (HE.out.later (HO.out.bel.trans (hal.mono HO.out.bel.size))) [sA, sC] (some ⟨W7.heap.size, 0, none⟩) 2 2 rfl (srd_two W7 sA sC) (by decide) (by decide)
  rw [rp_1.1, rp_1.2] at h1
  refine h1.mono ?_
  clear h1
  rintro x W8 ⟨A1, c1, Q1, rfl, hQ1, hR1, hq1, hb8⟩
  obtain ⟨q1, rfl, hm1⟩ := map_one hQ1
  simp only [List.length_singleton] at hR1 ⊢
  have hO := HO.out.below (hal.trans (hb8.mono hal.size))
  have hk1 := hq1 q1 (List.mem_singleton_self _)
  clear HO hal hb8 hQ1 hq1
  have HO := Lib.hid hO
  have HR1 := Lib.hid hR1
  have HK1 := Lib.hid hk1
  have HM1 := Lib.hid hm1
  clear hO hR1 hk1 hm1
  go_wp2_with fail
  have hal : Below W8.heap.size W8 (W8.alloc (.cells #[.string sA, .string sB] 9)) := (Below.refl _ _).alloc (Nat.le_refl _) _
  have h1 := replay_any (HE.out.later (HO.out.bel.trans (hal.mono HO.out.bel.size))) [sA, sB] (some ⟨W8.heap.size, 0, none⟩) 2 2 rfl (srd_two W8 sA sB) (by decide) (by decide)
  rw [rp_2] at h1
  refine h1.mono ?_
  clear h1
  rintro x W9 ⟨A2, c2, Q2, rfl, hQ2, hR2, hq2, hb9⟩
  obtain rfl : Q2 = [] := by simpa using hQ2
  simp only [List.length_nil]
  have hb := hal.trans (hb9.mono hal.size)
  have hO := HO.out.below hb
  have hR := HR1.out.below hb
  have hk := (HK1.out.1.below hb)
  have hk2 := HK1.out.2
  clear HO HR1 HK1 hal hb9 hb hQ2 hR2 hq2
  have HO := Lib.hid hO
  have HR1 := Lib.hid hR
  have HK1 := Lib.hid hk
  have HK2 := Lib.hid hk2
  clear hO hR hk hk2
  have f0 : W9.cell? ⟨k6, 0, none⟩ = some (.int .i64 1) := (HO.out.get 0 rfl).cell 0
  have f1 : W9.cell? ⟨k6, 1, none⟩ = some (.string ⟨#[103]⟩) := (HO.out.get 0 rfl).cell 1
  have f2 : W9.cell? ⟨k6, 2, none⟩ = some (.int .i64 2) := (HO.out.get 0 rfl).cell 2
  have f3 : W9.cell? ⟨k6, 3, none⟩ = some (.string ⟨#[116]⟩) := (HO.out.get 0 rfl).cell 3
  have f4 : W9.cell? ⟨k6, 4, none⟩ = some (.string ⟨#[120]⟩) := (HO.out.get 0 rfl).cell 4
  have f5 : W9.cell? ⟨k6, 5, none⟩ = some (.int .i64 1) := (HO.out.get 0 rfl).cell 5
  have f6 : W9.cell? ⟨k6, 6, none⟩ = some (.bool false) := (HO.out.get 0 rfl).cell 6
  have f7 : W9.cell? ⟨k6, 7, none⟩ = some (.slice Ap 0 cp) := (HO.out.get 0 rfl).cell 7
  have f8 : W9.cell? ⟨k6, 8, none⟩ = some (.string ⟨#[]⟩) := (HO.out.get 0 rfl).cell 8
  have f9 : W9.cell? ⟨k6, 9, none⟩ = some (.int .i64 1099511627776) := (HO.out.get 0 rfl).cell 9
  have f10 : W9.cell? ⟨k6, 10, none⟩ = some (.int .i64 2) := (HO.out.get 0 rfl).cell 10
  have f11 : W9.cell? ⟨k6, 11, none⟩ = some (.string ⟨#[103]⟩) := (HO.out.get 0 rfl).cell 11
  have g0 : W9.cell? ⟨k1, 0, none⟩ = some (.string ⟨#[116]⟩) := (HO.out.get 1 rfl).cell 0
  have g1 : W9.cell? ⟨k1, 1, none⟩ = some (.string ⟨#[120]⟩) := (HO.out.get 1 rfl).cell 1
  have g2 : W9.cell? ⟨k1, 2, none⟩ = some (.int .i64 1) := (HO.out.get 1 rfl).cell 2
  have g3 : W9.cell? ⟨k1, 3, none⟩ = some (.bool false) := (HO.out.get 1 rfl).cell 3
  have g4 : W9.cell? ⟨k1, 4, none⟩ = some (.slice none 0 0) := (HO.out.get 1 rfl).cell 4
  have g5 : W9.cell? ⟨k1, 5, none⟩ = some (.string ⟨#[]⟩) := (HO.out.get 1 rfl).cell 5
  have g6 : W9.cell? ⟨k1, 6, none⟩ = some (.int .i64 1099511627776) := (HO.out.get 1 rfl).cell 6
  have g7 : W9.cell? ⟨k1, 7, none⟩ = some (.int .i64 2) := (HO.out.get 1 rfl).cell 7
  have g8 : W9.cell? ⟨k1, 8, none⟩ = some (.string ⟨#[103]⟩) := (HO.out.get 1 rfl).cell 8
  go_wp2_with fail
  have h1 : Calls Tryz.prog 20 #[.agg #[.string ⟨#[116]⟩, .string ⟨#[120]⟩, .int .i64 1, .bool false, .slice Ap 0 cp, .string ⟨#[]⟩, .int .i64 1099511627776, .int .i64 2, .string ⟨#[103]⟩], .agg #[.string ⟨#[116]⟩, .string ⟨#[120]⟩, .int .i64 1, .bool false, .slice none 0 0, .string ⟨#[]⟩, .int .i64 1099511627776, .int .i64 2, .string ⟨#[103]⟩]] W9 _ := samemsg_any ⟨mA, Ap, cp⟩ ⟨mA, none, 0⟩ rfl (B := 0) (B2 := 0) (PIn.nil _ _ _) (PIn.nil _ _ _) (show mA.props.length ≤ 5000 by decide)
  refine h1.mono ?_
  clear h1
  clear f0 f1 f2 f3 f4 f5 f6 f7 f8 f9 f10 f11
  clear g0 g1 g2 g3 g4 g5 g6 g7 g8
  rintro x W10 ⟨rfl, hb⟩
  have hO := HO.out.below hb
  have hR := HR1.out.below hb
  have hk := HK1.out.below hb
  clear HO HR1 HK1 hb
  have HO := Lib.hid hO
  have HR1 := Lib.hid hR
  have HK1 := Lib.hid hk
  clear hO hR hk
  have g0 : W10.cell? ⟨k1, 0, none⟩ = some (.string ⟨#[116]⟩) := (HO.out.get 1 rfl).cell 0
  have g1 : W10.cell? ⟨k1, 1, none⟩ = some (.string ⟨#[120]⟩) := (HO.out.get 1 rfl).cell 1
  have g2 : W10.cell? ⟨k1, 2, none⟩ = some (.int .i64 1) := (HO.out.get 1 rfl).cell 2
  have g3 : W10.cell? ⟨k1, 3, none⟩ = some (.bool false) := (HO.out.get 1 rfl).cell 3
  have g4 : W10.cell? ⟨k1, 4, none⟩ = some (.slice none 0 0) := (HO.out.get 1 rfl).cell 4
  have g5 : W10.cell? ⟨k1, 5, none⟩ = some (.string ⟨#[]⟩) := (HO.out.get 1 rfl).cell 5
  have g6 : W10.cell? ⟨k1, 6, none⟩ = some (.int .i64 1099511627776) := (HO.out.get 1 rfl).cell 6
  have g7 : W10.cell? ⟨k1, 7, none⟩ = some (.int .i64 2) := (HO.out.get 1 rfl).cell 7
  have g8 : W10.cell? ⟨k1, 8, none⟩ = some (.string ⟨#[103]⟩) := (HO.out.get 1 rfl).cell 8
  go_wp2_with fail
  clear g0 g1 g2 g3 g4 g5 g6 g7 g8
  have hal : Below W10.heap.size W10 (W10.alloc (.cells #[.string ⟨#[116]⟩, .string ⟨#[120]⟩, .int .i64 1, .bool false, .slice none 0 0, .string ⟨#[]⟩, .int .i64 1099511627776, .int .i64 2, .string ⟨#[103]⟩] 25)) := (Below.refl _ _).alloc (Nat.le_refl _) _
  have h1 := msame_any (L := [q1]) (L2 := [⟨mA, none, 0⟩]) (B := 0) (B2 := 0) ((own_qrow (HR1.out.below hal)).mrd) (mrd_A W10) (fun q hq => by
    rw [List.mem_singleton] at hq
    subst hq
    exact ⟨HK1.out.below hal, Nat.le_trans HK2.out.2.1 (by decide)⟩) (fun q hq => by
    rw [List.mem_singleton] at hq
    subst hq
    exact PIn.nil _ _ _) (by simp [HM1.out]) 1 c1 1 rfl (by decide)
  refine h1.mono ?_
  clear h1
  rintro x W11 ⟨rfl, hb11⟩
  have hb := hal.trans (hb11.mono hal.size)
  have hO := HO.out.below hb
  have hR := HR1.out.below hb
  have hk := HK1.out.below hb
  clear HO HR1 HK1 hal hb11 hb
  have HO := Lib.hid hO
  have HR1 := Lib.hid hR
  have HK1 := Lib.hid hk
  clear hO hR hk
  go_wp2_with fail
  have h1 := rewrite_any (HE.out.later HO.out.bel) [q1] A1 1 c1 2 rfl ((own_qrow HR1.out).mrd) (fun q hq => by
    rw [List.mem_singleton] at hq
    subst hq
    exact ⟨HK1.out.mono (Nat.zero_le _), HK2.out.1, by rw [HM1.out]; exact small_A⟩) (by decide)
  have hl : (rwF ([q1].map QV.m) 2).length = 2 := by rw [show [q1].map QV.m = [mA] by simp [HM1.out]]; exact rw_2
  refine h1.mono ?_
  clear h1
  rintro x W12 ⟨A3, c3, rfl, hrow, hb⟩
  rw [hl]
  have hO := HO.out.below hb
  clear HO HR1 HK1 hl hrow hb
  have HO := Lib.hid hO
  clear hO
  go_wp2_with fail
  go_ret
  exact ⟨rfl, HO.out.bel⟩
end Go.Proofs.YtnolnhpmpjgnaaaGreatDoor
