/- What is proved here: what the statements of layer 11 hold awake. Condition: what the rows list of the package's variables. -/
import Derived.Test.YtinhecggmakbnaaGreatDoorEnk11
import Derived.Test.YtinhecggmakbnaaGreatDoorPkx08
import Derived.Test.YtinhecggmakbnaaGreatDoorSam08
namespace Go.Proofs.YtinhecggmakbnaaGreatDoor
set_option maxRecDepth 100000
open Go.RowKit Go.Extern.Stop Go.Stop Go.Extern
theorem err_zeroA {w : World} {S : Nat → Addr} {r : Int} {no a : Nat} {e : Value} (h : ErrOf w S r no a e) (h0 : no = 0) : e = .nilIface := by
  unfold ErrOf at h
  rw [if_pos h0] at h
  exact h
def awQ : Pk := pkR 6 7 146 []
theorem aw11_d : dcA 98 ⟨#[0, 7, 146]⟩ = (e00, awQ) := by rfl
theorem aw11_e : enA awQ = ⟨e00, 98, ⟨#[0, 7, 146]⟩⟩ := by rfl
theorem aw11_h : dcA 64 ⟨#[0, 1]⟩ = (e00, pkR 4 1 0 []) := by rfl
section
variable {w w' : World} {S : Nat → Addr}
set_option maxHeartbeats 8000000 in
theorem awake11 (hE : Env w S) : Calls Tryz.prog 19 #[] w fun x w' => x = .returned (.bool true) ∧ Below w.heap.size w w' := by
  have HE := Lib.hid hE
  obtain ⟨z, hz⟩ : ∃ z, z = pk0.cells pa0 := ⟨_, rfl⟩
  have HZ := Lib.hid hz
  have HZS := Lib.hid (show z.size = 26 by rw [hz]; rfl)
  obtain ⟨c1, hc1⟩ : ∃ c, c = awQ.cells pa0 := ⟨_, rfl⟩
  have HC1 := Lib.hid hc1
  have HS1 := Lib.hid (show c1.size = 26 by rw [hc1]; rfl)
  have HO1 := Lib.hid (show c1.all (·.oneCell') = true by rw [hc1]; exact pk_one _ _)
  have b1 : Below w.heap.size w (w.alloc (.cells c1 29)) := (Below.refl _ _).alloc (Nat.le_refl _) _
  obtain ⟨W1, hW1⟩ : ∃ W, W = w.alloc (.cells c1 29) := ⟨_, rfl⟩
  rw [← hW1] at b1
  have hen := enc11 (p := awQ) (A := pa0) (hE.later b1) (PkIn.ofR (a := none) (c := 0) (PIn.nil _ _ _) (Nat.le_refl _) : PkIn W1 W1.heap.size pa0 awQ) (smallP_of (Nat.zero_le _) fun k hk => absurd hk (Nat.not_lt_zero _))
  rw [aw11_e, show awQ.agg pa0 = .agg c1 from by rw [hc1]; rfl] at hen
  have HEN := Lib.hid hen
  have HB1 := Lib.hid b1
  have HW1 := Lib.hid hW1
  have K1 := Lib.hid (show Blk W1 w.heap.size 29 c1 from by rw [hW1]; exact Blk.made w 29 c1)
  clear hE hz hc1 b1 hen hW1
  go_enter Tryz.func19, Tryz.ntmps19
  go_wp2_with (first | refine wpk_alloc HZ.out rfl rfl ?_ | refine wpk_store_new HZS.out (c := c1) HS1.out HO1.out _ _ rfl rfl rfl (by rw [HC1.out]; rfl) ?_ | refine wpk_load (Blk.made w 29 c1) HS1.out _ rfl rfl rfl ?_)
  rw [← HW1.out]
  refine HEN.out.mono ?_
  rintro x w2 ⟨e2, rfl, he2, hb2⟩
  obtain rfl := err_zeroA he2 rfl
  simp only
  obtain ⟨W2, hW2⟩ : ∃ W, W = w2.alloc (.cells #[.int .i64 98, .string ⟨#[0, 7, 146]⟩] 33) := ⟨_, rfl⟩
  have hb2' : Below w2.heap.size w2 W2 := by rw [hW2]; exact (Below.refl _ _).alloc (Nat.le_refl _) _
  have HB2 := Lib.hid ((HB1.out.trans (hb2.mono HB1.out.size)).trans (hb2'.mono (HB1.out.trans (hb2.mono HB1.out.size)).size))
  have K12 := Lib.hid ((K1.out.below hb2 K1.out.lt).below hb2' (K1.out.below hb2 K1.out.lt).lt)
  have K22 := Lib.hid (show Blk W2 w2.heap.size 33 #[.int .i64 98, .string ⟨#[0, 7, 146]⟩] from by rw [hW2]; exact Blk.made _ _ _)
  have hde := dec11 (HE.out.later HB2.out) (s := ⟨#[0, 7, 146]⟩) 98 (by decide)
  rw [aw11_d] at hde
  have HDE := Lib.hid hde
  have HW2 := Lib.hid hW2
  clear hb2 hb2' hde hW2 HEN HB1 K1
  go_wp2_with fail
  rw [← HW2.out]
  refine HDE.out.mono ?_
  rintro x w3 ⟨A3, e3, rfl, hp3, he3, hb3⟩
  obtain rfl := err_zeroA he3 rfl
  simp only at hp3 ⊢
  obtain ⟨c3, hc3⟩ : ∃ c, c = awQ.cells A3 := ⟨_, rfl⟩
  rw [show awQ.agg A3 = .agg c3 from by rw [hc3]; rfl]
  have HC3 := Lib.hid hc3
  have HS3 := Lib.hid (show c3.size = 26 by rw [hc3]; rfl)
  have HO3 := Lib.hid (show c3.all (·.oneCell') = true by rw [hc3]; exact pk_one _ _)
  obtain ⟨W3, hW3⟩ : ∃ W, W = w3.alloc (.cells c3 29) := ⟨_, rfl⟩
  have hb3' : Below w3.heap.size w3 W3 := by rw [hW3]; exact (Below.refl _ _).alloc (Nat.le_refl _) _
  have HB3 := Lib.hid ((HB2.out.trans (hb3.mono HB2.out.size)).trans (hb3'.mono (HB2.out.trans (hb3.mono HB2.out.size)).size))
  have K13 := Lib.hid ((K12.out.below hb3 K12.out.lt).below hb3' (K12.out.below hb3 K12.out.lt).lt)
  have K23 := Lib.hid ((K22.out.below hb3 K22.out.lt).below hb3' (K22.out.below hb3 K22.out.lt).lt)
  have K33 := Lib.hid (show Blk W3 w3.heap.size 29 c3 from by rw [hW3]; exact Blk.made _ _ _)
  have P3 := Lib.hid (hp3.below hb3')
  have hde := dec11 (HE.out.later HB3.out) (s := ⟨#[0, 1]⟩) 64 (by decide)
  rw [aw11_h] at hde
  have HDE := Lib.hid hde
  have HW3 := Lib.hid hW3
  clear hb3 hb3' hde hW3 hp3 HB2 K12 K22 hc3
  go_wp2_with (first | refine wpk_alloc HZ.out rfl rfl ?_ | refine wpk_store_new HZS.out (c := c3) HS3.out HO3.out _ _ rfl rfl rfl rfl ?_)
  rw [← HW3.out]
  refine HDE.out.mono ?_
  rintro x w4 ⟨A4, e4, rfl, hp4, he4, hb4⟩
  obtain rfl := err_zeroA he4 rfl
  simp only
  obtain ⟨c4, hc4⟩ : ∃ c, c = (pkR 4 1 0 []).cells A4 := ⟨_, rfl⟩
  rw [show (pkR 4 1 0 []).agg A4 = .agg c4 from by rw [hc4]; rfl]
  have HS4 := Lib.hid (show c4.size = 26 by rw [hc4]; rfl)
  have HO4 := Lib.hid (show c4.all (·.oneCell') = true by rw [hc4]; exact pk_one _ _)
  have HC40 := Lib.hid (show c4[0]? = some (.int .i64 4) by rw [hc4]; rfl)
  have hc41 : c4[1]? = some (.int .i64 1) := by rw [hc4]; rfl
  obtain ⟨W4, hW4⟩ : ∃ W, W = w4.alloc (.cells c4 29) := ⟨_, rfl⟩
  have hb4' : Below w4.heap.size w4 W4 := by rw [hW4]; exact (Below.refl _ _).alloc (Nat.le_refl _) _
  have HB4 := Lib.hid ((HB3.out.trans (hb4.mono HB3.out.size)).trans (hb4'.mono (HB3.out.trans (hb4.mono HB3.out.size)).size))
  have K14 := Lib.hid ((K13.out.below hb4 K13.out.lt).below hb4' (K13.out.below hb4 K13.out.lt).lt)
  have K24 := Lib.hid ((K23.out.below hb4 K23.out.lt).below hb4' (K23.out.below hb4 K23.out.lt).lt)
  have K34 := Lib.hid ((K33.out.below hb4 K33.out.lt).below hb4' (K33.out.below hb4 K33.out.lt).lt)
  have K44 := Lib.hid (show Blk W4 w4.heap.size 29 c4 from by rw [hW4]; exact Blk.made _ _ _)
  have P4 := Lib.hid ((P3.out.below hb4).below hb4')
  have HC41 := Lib.hid hc41
  have f0 : (w4.alloc (.cells c4 29)).cell? ⟨w2.heap.size, 0, none⟩ = some (.int .i64 98) := by rw [← hW4]; exact K24.out.cell 0
  have f1 : (w4.alloc (.cells c4 29)).cell? ⟨w2.heap.size, 1, none⟩ = some (.string ⟨#[0, 7, 146]⟩) := by rw [← hW4]; exact K24.out.cell 1
  have KX3 := Lib.hid (show Blk (w4.alloc (.cells c4 29)) w3.heap.size 29 c3 from by rw [← hW4]; exact K34.out)
  have KX1 := Lib.hid (show Blk (w4.alloc (.cells c4 29)) w.heap.size 29 c1 from by rw [← hW4]; exact K14.out)
  have hsm := same08 (p := awQ) (A2 := pa0) P4.out (PkIn.ofR (a := none) (c := 0) (PIn.nil _ _ _) (Nat.le_refl _) : PkIn W4 W4.heap.size pa0 awQ) rfl (by decide) (by decide) (by decide) (by decide)
  rw [show awQ.agg A3 = .agg c3 from by rw [HC3.out]; rfl, show awQ.agg pa0 = .agg c1 from by rw [HC1.out]; rfl] at hsm
  have HSM := Lib.hid hsm
  have HW4 := Lib.hid hW4
  clear hb4 hb4' hW4 hp4 HB3 K13 K23 K33 P3 hc4 hsm HDE hc41
  go_wp2_with (first | refine wpk_alloc HZ.out rfl rfl ?_ | refine wpk_store_new HZS.out (c := c4) HS4.out HO4.out _ _ rfl rfl rfl rfl ?_ | refine wpk_load_g KX3.out HS3.out _ rfl rfl rfl ?_ | refine wpk_load_g KX1.out HS1.out _ rfl rfl rfl ?_)
  rw [← HW4.out]
  refine HSM.out.mono ?_
  rintro x w6 ⟨rfl, hb6⟩
  have k46 := K44.out.below hb6 K44.out.lt
  have g0 : w6.cell? ⟨w4.heap.size, 0, none⟩ = some (.int .i64 4) := (k46.cell 0).trans HC40.out
  have g1 : w6.cell? ⟨w4.heap.size, 1, none⟩ = some (.int .i64 1) := (k46.cell 1).trans HC41.out
  have HB6 := Lib.hid (HB4.out.trans (hb6.mono HB4.out.size))
  clear hb6 k46 f0 f1 HSM
  go_wp2_with fail
  go_ret
  exact ⟨rfl, HB6.out⟩
end
end Go.Proofs.YtinhecggmakbnaaGreatDoor
