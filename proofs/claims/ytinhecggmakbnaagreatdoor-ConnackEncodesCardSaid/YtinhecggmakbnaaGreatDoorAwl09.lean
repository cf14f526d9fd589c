/- What is proved here: what the statements of layer 9 hold awake. Condition: what the rows list of the package's variables. -/
import Derived.Test.YtinhecggmakbnaaGreatDoorEnc09
import Derived.Test.YtinhecggmakbnaaGreatDoorSam08
namespace Go.Proofs.YtinhecggmakbnaaGreatDoor
set_option maxRecDepth 100000
open Go.ChangeShapes Go.WideShapes Go.RowKit Go.Deep Go.Extern.Stop Go.Stop Go.Extern
def awC : Pk := pkC false 135 []
theorem aw09_e : enC awC = ⟨e00, 32, ⟨#[0, 135, 0]⟩⟩ := by kernel_rfl
theorem aw09_d : dcC 32 ⟨#[0, 135, 0]⟩ = (e00, awC) := by kernel_rfl
theorem aw09_h : dcC 32 ⟨#[1, 135, 0]⟩ = (⟨3, 130, 0⟩, pk0) := by kernel_rfl
theorem smC_aw : SmC awC := small_of8 (fun p hp => by cases hp) (by decide) (by decide)
theorem okC_aw : SmOk awC := ⟨rfl, Nat.zero_le _, Nat.zero_le _, Nat.zero_le _, Nat.zero_le _⟩
section
variable {w w' : World} {S : Nat → Addr}
set_option maxHeartbeats 8000000 in
theorem awake09 (hE : EnvN w S) : Calls Tryz.prog 15 #[] w fun x w' => x = .returned (.bool true) ∧ Below w.heap.size w w' := by
  have HE := Lib.hid hE
  obtain ⟨z, hz⟩ : ∃ z, z = pk0.cells pa0 := ⟨_, rfl⟩
  have HZ := Lib.hid hz
  have HZS := Lib.hid (show z.size = 26 by rw [hz]; rfl)
  obtain ⟨c1, hc1⟩ : ∃ c, c = awC.cells pa0 := ⟨_, rfl⟩
  have HC1 := Lib.hid hc1
  have HS1 := Lib.hid (show c1.size = 26 by rw [hc1]; rfl)
  have HO1 := Lib.hid (show c1.all (·.oneCell') = true by rw [hc1]; exact pk_one _ _)
  have b1 : Below w.heap.size w (w.alloc (.cells c1 29)) := (Below.refl _ _).alloc (Nat.le_refl _) _
  obtain ⟨W1, hW1⟩ : ∃ W, W = w.alloc (.cells c1 29) := ⟨_, rfl⟩
  rw [← hW1] at b1
  have hp1 : PkIn W1 W1.heap.size pa0 awC := PkIn.ofC (a := none) (c := 0) (PIn.nil _ _ _) (Nat.le_refl _)
  have hen := enc09 (p := awC) (A := pa0) (hE.env.later b1) hp1 smC_aw
  rw [aw09_e, show awC.agg pa0 = .agg c1 from by rw [hc1]; rfl] at hen
  have HEN := Lib.hid hen
  have HB1 := Lib.hid b1
  have HW1 := Lib.hid hW1
  have K1 := Lib.hid (show Blk W1 w.heap.size 29 c1 from by rw [hW1]; exact Blk.made w 29 c1)
  clear hE hz hc1 b1 hen hW1 hp1
  go_enter Tryz.func15, Tryz.ntmps15
  go_wp2_with (first | refine wpk_alloc HZ.out rfl rfl ?_ | refine wpk_store_new HZS.out (c := c1) HS1.out HO1.out _ _ rfl rfl rfl (by rw [HC1.out]; rfl) ?_ | refine wpk_load (Blk.made w 29 c1) HS1.out _ rfl rfl rfl ?_)
  rw [← HW1.out]
  refine HEN.out.mono ?_
  rintro x w2 ⟨e2, rfl, he2, hb2⟩
  obtain rfl := err_zero8 he2 rfl
  simp only
  obtain ⟨W2, hW2⟩ : ∃ W, W = w2.alloc (.cells #[.int .i64 32, .string ⟨#[0, 135, 0]⟩] 33) := ⟨_, rfl⟩
  have hb2' : Below w2.heap.size w2 W2 := by rw [hW2]; exact (Below.refl _ _).alloc (Nat.le_refl _) _
  have HB2 := Lib.hid ((HB1.out.trans (hb2.mono HB1.out.size)).trans (hb2'.mono (HB1.out.trans (hb2.mono HB1.out.size)).size))
  have K12 := Lib.hid ((K1.out.below hb2 K1.out.lt).below hb2' (K1.out.below hb2 K1.out.lt).lt)
  have K22 := Lib.hid (show Blk W2 w2.heap.size 33 #[.int .i64 32, .string ⟨#[0, 135, 0]⟩] from by rw [hW2]; exact Blk.made _ _ _)
  have hde := dec09 (HE.out.env.later HB2.out) (s := ⟨#[0, 135, 0]⟩) 32 (by decide)
  rw [aw09_d] at hde
  have HDE := Lib.hid hde
  have HW2 := Lib.hid hW2
  clear hb2 hb2' hde hW2 HEN HB1 K1
  go_wp2_with fail
  rw [← HW2.out]
  refine HDE.out.mono ?_
  rintro x w3 ⟨A3, e3, rfl, hp3, he3, hb3⟩
  obtain rfl := err_zero8 he3 rfl
  simp only at hp3 ⊢
  obtain ⟨c3, hc3⟩ : ∃ c, c = awC.cells A3 := ⟨_, rfl⟩
  rw [show awC.agg A3 = .agg c3 from by rw [hc3]; rfl]
  have HC3 := Lib.hid hc3
  have HS3 := Lib.hid (show c3.size = 26 by rw [hc3]; rfl)
  have HO3 := Lib.hid (show c3.all (·.oneCell') = true by rw [hc3]; exact pk_one _ _)
  obtain ⟨W3, hW3⟩ : ∃ W, W = w3.alloc (.cells c3 29) := ⟨_, rfl⟩
  have hb3' : Below w3.heap.size w3 W3 := by rw [hW3]; exact (Below.refl _ _).alloc (Nat.le_refl _) _
  have HB3 := Lib.hid ((HB2.out.trans (hb3.mono HB2.out.size)).trans (hb3'.mono (HB2.out.trans (hb3.mono HB2.out.size)).size))
  have K13 := Lib.hid ((K12.out.below hb3 K12.out.lt).below hb3' (K12.out.below hb3 K12.out.lt).lt)
  have K23 := Lib.hid ((K22.out.below hb3 K22.out.lt).below hb3' (K22.out.below hb3 K22.out.lt).lt)
  have K33 := Lib.hid (show Blk W3 w3.heap.size 29 c3 from by rw [hW3]; exact Blk.made _ _ _)
  have P3 := Lib.hid (hp3.below hb3')
  have hde := dec09 (HE.out.env.later HB3.out) (s := ⟨#[1, 135, 0]⟩) 32 (by decide)
  rw [aw09_h] at hde
  have HDE := Lib.hid hde
  have HW3 := Lib.hid hW3
  clear hb3 hb3' hde hW3 hp3 HB2 K12 K22 hc3
  go_wp2_with (first | refine wpk_alloc HZ.out rfl rfl ?_ | refine wpk_store_new HZS.out (c := c3) HS3.out HO3.out _ _ rfl rfl rfl rfl ?_)
  rw [← HW3.out]
  refine HDE.out.mono ?_
  rintro x w5 ⟨A5, e5, rfl, hp5, he5, hb5⟩
  obtain ⟨t5, u5, rfl⟩ := err_iface he5 (show (3 : Nat) ≠ 0 by decide)
  simp only at he5 ⊢
  obtain ⟨c5, hc5⟩ : ∃ c, c = pk0.cells A5 := ⟨_, rfl⟩
  rw [show pk0.agg A5 = .agg c5 from by rw [hc5]; rfl]
  have HS5 := Lib.hid (show c5.size = 26 by rw [hc5]; rfl)
  have HO5 := Lib.hid (show c5.all (·.oneCell') = true by rw [hc5]; exact pk_one _ _)
  obtain ⟨W5, hW5⟩ : ∃ W, W = w5.alloc (.cells c5 29) := ⟨_, rfl⟩
  have hb5' : Below w5.heap.size w5 W5 := by rw [hW5]; exact (Below.refl _ _).alloc (Nat.le_refl _) _
  have HB5 := Lib.hid ((HB3.out.trans (hb5.mono HB3.out.size)).trans (hb5'.mono (HB3.out.trans (hb5.mono HB3.out.size)).size))
  have K15 := Lib.hid ((K13.out.below hb5 K13.out.lt).below hb5' (K13.out.below hb5 K13.out.lt).lt)
  have k25 := (K23.out.below hb5 K23.out.lt).below hb5' (K23.out.below hb5 K23.out.lt).lt
  have K35 := Lib.hid ((K33.out.below hb5 K33.out.lt).below hb5' (K33.out.below hb5 K33.out.lt).lt)
  have P5 := Lib.hid ((P3.out.below hb5).below hb5')
  have E5 := Lib.hid (he5.later hb5')
  have f0 : (w5.alloc (.cells c5 29)).cell? ⟨w2.heap.size, 0, none⟩ = some (.int .i64 32) := by rw [← hW5]; exact k25.cell 0
  have f1 : (w5.alloc (.cells c5 29)).cell? ⟨w2.heap.size, 1, none⟩ = some (.string ⟨#[0, 135, 0]⟩) := by rw [← hW5]; exact k25.cell 1
  have KX3 := Lib.hid (show Blk (w5.alloc (.cells c5 29)) w3.heap.size 29 c3 from by rw [← hW5]; exact K35.out)
  have KX1 := Lib.hid (show Blk (w5.alloc (.cells c5 29)) w.heap.size 29 c1 from by rw [← hW5]; exact K15.out)
  have hsm := same_ok (p := awC) (A2 := pa0) P5.out (PkIn.ofC (a := none) (c := 0) (PIn.nil _ _ _) (Nat.le_refl _) : PkIn W5 W5.heap.size pa0 awC) okC_aw
  rw [show awC.agg A3 = .agg c3 from by rw [HC3.out]; rfl, show awC.agg pa0 = .agg c1 from by rw [HC1.out]; rfl] at hsm
  have HSM := Lib.hid hsm
  have HW5 := Lib.hid hW5
  clear hb5 hb5' hW5 hp5 he5 HB3 K13 K23 K33 P3 hc5 k25 hsm HDE
  go_wp2_with (first | refine wpk_alloc HZ.out rfl rfl ?_ | refine wpk_store_new HZS.out (c := c5) HS5.out HO5.out _ _ rfl rfl rfl rfl ?_ | refine wpk_load_g KX3.out HS3.out _ rfl rfl rfl ?_ | refine wpk_load_g KX1.out HS1.out _ rfl rfl rfl ?_)
  rw [← HW5.out]
  refine HSM.out.mono ?_
  rintro x w6 ⟨rfl, hb6⟩
  have HB6 := Lib.hid (HB5.out.trans (hb6.mono HB5.out.size))
  have HNO := Lib.hid (number_of (HE.out.later HB6.out) (E5.out.later hb6))
  clear hb6 f0 f1 HSM
  go_wp2_with fail
  refine HNO.out.mono ?_
  rintro x w7 ⟨rfl, hb7⟩
  have HB7 := Lib.hid (HB6.out.trans (hb7.mono HB6.out.size))
  clear hb7 HNO
  go_wp2_with fail
  go_ret
  exact ⟨rfl, HB7.out⟩
end
end Go.Proofs.YtinhecggmakbnaaGreatDoor
