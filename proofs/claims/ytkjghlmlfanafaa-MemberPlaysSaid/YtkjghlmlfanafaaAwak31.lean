/- What is proved here: the statements of layer 31 are awake. No conditions. -/
import Derived.Test.YtkjghlmlfanafaaDo31
namespace Go.Proofs.Ytkjghlmlfanafaa
open Go.RowKit Go.Extern.Stop Go.Stop Go.Extern
section
variable {w0 w w' w1 : World} {B g : Nat} {v v' : Value} {L L' : ML} {gen gen' : Nat}
theorem MStep.below (hs : MStep w w' B g v v' L' gen') (hm : MObj w B g v L gen) (hb : Below B w0 w) (hB : B ≤ w.heap.size) : Below B w0 w' := by
  refine hs.fr.later hb (fun b hx => ?_) hB
  rcases List.mem_cons.1 hx with rfl | hx
  · exact hm.low
  · have hk : v.ownBlock = some b := by cases hv : v.ownBlock with | none => rw [hv] at hx; cases hx | some k => rw [hv] at hx; simp at hx; rw [hx]
    exact (World.ownsRow.lt hm.row b hk).1
theorem MObj.size (hm : MObj w B g v L gen) : B ≤ w.heap.size := Nat.le_trans hm.low (Nat.le_of_lt hm.blk.lt)
theorem mobj_new (w : World) (hB : B ≤ w.heap.size) : MObj (w.alloc (.cells #[.slice none 0 0, .int .i64 0] 28)) B w.heap.size (.slice none 0 0) [] 0 :=
  ⟨hB, Blk.made w 28 _, World.ownsRow_nil _ _ _ _⟩
def tA : ByteArray := ⟨#[97]⟩
def tB : ByteArray := ⟨#[98]⟩
def l1 : ML := [MV.mk tA 1 1 true]
def l2 : ML := [MV.mk tA 1 1 true, MV.mk tB 2 2 true]
def l3 : ML := [MV.mk tA 1 2 true, MV.mk tB 2 2 true]
def l4 : ML := [MV.mk tA 1 2 false, MV.mk tB 2 2 true]
def l5 : ML := [MV.mk tA 1 2 false]
theorem a1 (h : MObj w B g v [] 0) : Calls Try.prog 54 #[.pointer (some ⟨g, 0, none⟩), .string ⟨#[97]⟩, .int .i64 1] w (Does w B g v (true, l1, 1)) := join_does h (by simp) (by simp) ⟨#[97]⟩ 1
theorem a2 (h : MObj w B g v l1 1) : Calls Try.prog 54 #[.pointer (some ⟨g, 0, none⟩), .string ⟨#[98]⟩, .int .i64 2] w (Does w B g v (true, l2, 2)) := join_does h (by decide) (by decide) ⟨#[98]⟩ 2
theorem a3 (h : MObj w B g v l2 2) : Calls Try.prog 54 #[.pointer (some ⟨g, 0, none⟩), .string ⟨#[97]⟩, .int .i64 2] w (Does w B g v (false, l3, 2)) := join_does h (by decide) (by decide) ⟨#[97]⟩ 2
theorem a4 (h : MObj w B g v l3 2) : Calls Try.prog 55 #[.pointer (some ⟨g, 0, none⟩), .string ⟨#[97]⟩, .bool false] w (Does w B g v (true, l4, 3)) := online_does h (by decide) (by decide) ⟨#[97]⟩ false
theorem a5 (h : MObj w B g v l4 3) : Calls Try.prog 56 #[.pointer (some ⟨g, 0, none⟩), .string ⟨#[98]⟩] w (Does w B g v (true, l5, 4)) := leave_does h (by decide) (by decide) ⟨#[98]⟩
theorem o3 (h : MObj w B g v l3 2) : Calls Try.prog 24 #[.pointer (some ⟨g, 0, none⟩)] w fun x w' => x = .returned (.string ⟨#[97]⟩) ∧ Below w.heap.size w w' := owner_any h (by decide)
theorem o4 (h : MObj w B g v l4 3) : Calls Try.prog 24 #[.pointer (some ⟨g, 0, none⟩)] w fun x w' => x = .returned (.string ⟨#[98]⟩) ∧ Below w.heap.size w w' := owner_any h (by decide)
theorem o5 (h : MObj w B g v l5 4) : Calls Try.prog 24 #[.pointer (some ⟨g, 0, none⟩)] w fun x w' => x = .returned (.string ⟨#[]⟩) ∧ Below w.heap.size w w' := owner_any h (by decide)
theorem g4 (h : MObj w B g v l4 3) : Calls Try.prog 17 #[.pointer (some ⟨g, 0, none⟩), .string ⟨#[98]⟩] w fun x w' => x = .returned (.tuple #[.agg #[.string ⟨#[98]⟩, .int .i64 2, .int .i64 2, .bool true], .bool true]) ∧ Below w.heap.size w w' :=
  (get_any h (by decide) ⟨#[98]⟩).mono fun x w' hx => by
    rcases hx with ⟨i, h1, h2, h3, h4⟩ | ⟨h1, _⟩
    · obtain rfl : i = 1 := by
        have : idxM l4 ⟨#[98]⟩ = 1 := by decide
        omega
      exact ⟨h3, h4⟩
    · exact absurd h1 (by decide)
theorem n4 (h : MObj w B g v l4 3) : Calls Try.prog 26 #[.pointer (some ⟨g, 0, none⟩)] w fun x w' => x = .returned (.int .i64 3) ∧ w = w' := gen_any h
theorem all4 (h : MObj w B g v l4 3) : Calls Try.prog 20 #[.pointer (some ⟨g, 0, none⟩)] w fun x w' => (∃ a c, x = .returned (.slice a 2 c)) ∧ Below w.heap.size w w' :=
  (all_any h (by decide)).mono fun x w' ⟨v', e, ho, hb⟩ => by
    refine ⟨?_, hb⟩
    rcases ho.2 with ⟨_, h0⟩ | ⟨gr, cap, cur, e2, _⟩
    · exact absurd h0 (by decide)
    · exact ⟨_, _, by rw [e, e2]; rfl⟩
theorem here4 (h : MObj w B g v l4 3) : Calls Try.prog 22 #[.pointer (some ⟨g, 0, none⟩)] w fun x w' => (∃ a c, x = .returned (.slice a 1 c)) ∧ Below w.heap.size w w' :=
  (here_any h (by decide)).mono fun x w' ⟨v', e, ho, hb⟩ => by
    obtain ⟨a, c, rfl⟩ := ho.form
    exact ⟨⟨a, c, e⟩, hb⟩
set_option maxHeartbeats 1000000 in
set_option maxRecDepth 10000 in
theorem awake31 (w : World) : Calls Try.prog 14 #[] w fun x w' => x = .returned (.bool true) ∧ Below w.heap.size w w' := by
  have HB0 := Lib.hid ((Below.refl w.heap.size w).alloc (Nat.le_refl _) (.cells #[.slice none 0 0, .int .i64 0] 28))
  have HM0 := Lib.hid (mobj_new w (Nat.le_refl w.heap.size))
  go_enter Try.func14, Try.ntmps14
  go_wp2_with fail
  refine (a1 HM0.out).mono ?_
  rintro x w1 ⟨rfl, v1, h1⟩
  have HB1 := Lib.hid (h1.below HM0.out HB0.out HM0.out.size)
  have HM1 := Lib.hid h1.obj
  clear h1 HM0 HB0
  go_wp2_with fail
  refine (a2 HM1.out).mono ?_
  rintro x w2 ⟨rfl, v2, h2⟩
  have HB2 := Lib.hid (h2.below HM1.out HB1.out HM1.out.size)
  have HM2 := Lib.hid h2.obj
  clear h2 HM1 HB1
  go_wp2_with fail
  refine (a3 HM2.out).mono ?_
  rintro x w3 ⟨rfl, v3, h3⟩
  have HB3 := Lib.hid (h3.below HM2.out HB2.out HM2.out.size)
  have HM3 := Lib.hid h3.obj
  clear h3 HM2 HB2
  go_wp2_with fail
  refine (o3 HM3.out).mono ?_
  rintro x w4 ⟨rfl, hb⟩
  have HB4 := Lib.hid (HB3.out.trans (hb.mono HM3.out.size))
  have HM4 := Lib.hid (HM3.out.below hb)
  clear hb HM3 HB3
  go_wp2_with fail
  refine (a4 HM4.out).mono ?_
  rintro x w5 ⟨rfl, v5, h5⟩
  have HB5 := Lib.hid (h5.below HM4.out HB4.out HM4.out.size)
  have HM5 := Lib.hid h5.obj
  clear h5 HM4 HB4
  go_wp2_with fail
  refine (g4 HM5.out).mono ?_
  rintro x w6 ⟨rfl, hb⟩
  have HB6 := Lib.hid ((HB5.out.trans (hb.mono HM5.out.size)).alloc (HB5.out.trans (hb.mono HM5.out.size)).size (.cells #[.string ⟨#[98]⟩, .int .i64 2, .int .i64 2, .bool true] 37))
  have HM6 := Lib.hid ((HM5.out.below hb).below ((Below.refl w6.heap.size w6).alloc (Nat.le_refl _) (.cells #[.string ⟨#[98]⟩, .int .i64 2, .int .i64 2, .bool true] 37)))
  have HK6 := Lib.hid (Blk.made w6 37 #[.string ⟨#[98]⟩, .int .i64 2, .int .i64 2, .bool true])
  clear hb HM5 HB5
  go_wp2_with fail
  refine (o4 HM6.out).mono ?_
  rintro x w7 ⟨rfl, hb⟩
  have HB7 := Lib.hid (HB6.out.trans (hb.mono HM6.out.size))
  have HM7 := Lib.hid (HM6.out.below hb)
  have hk7 := HK6.out.below hb HK6.out.lt
  have c1 : w7.cell? ⟨w6.heap.size, 1, none⟩ = some (.int .i64 2) := hk7.cell 1
  clear hb HM6 HB6 HK6 hk7
  generalize w6.heap.size = kx at *
  go_wp2_with fail
  refine (n4 HM7.out).mono ?_
  rintro x w8 ⟨rfl, rfl⟩
  go_wp2_with fail
  refine (all4 HM7.out).mono ?_
  rintro x w8 ⟨⟨aa, ac, rfl⟩, hb⟩
  have HB8 := Lib.hid (HB7.out.trans (hb.mono HM7.out.size))
  have HM8 := Lib.hid (HM7.out.below hb)
  clear hb HM7 HB7 c1
  go_wp2_with fail
  refine (here4 HM8.out).mono ?_
  rintro x w9 ⟨⟨ba, bc, rfl⟩, hb⟩
  have HB9 := Lib.hid (HB8.out.trans (hb.mono HM8.out.size))
  have HM9 := Lib.hid (HM8.out.below hb)
  clear hb HM8 HB8
  go_wp2_with fail
  refine (a5 HM9.out).mono ?_
  rintro x w10 ⟨rfl, v10, h10⟩
  have HB10 := Lib.hid (h10.below HM9.out HB9.out HM9.out.size)
  have HM10 := Lib.hid h10.obj
  clear h10 HM9 HB9
  go_wp2_with fail
  refine (o5 HM10.out).mono ?_
  rintro x w11 ⟨rfl, hb⟩
  have HB11 := Lib.hid (HB10.out.trans (hb.mono HM10.out.size))
  clear hb HM10 HB10
  go_wp2_with fail
  go_ret
  exact ⟨rfl, HB11.out⟩
end
end Go.Proofs.Ytkjghlmlfanafaa
