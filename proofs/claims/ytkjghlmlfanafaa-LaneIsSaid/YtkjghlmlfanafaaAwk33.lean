/- What is proved here: what must come of lanes, whatever the arguments are. No conditions. -/
import Derived.Test.YtkjghlmlfanafaaWit33
namespace Go.Proofs.Ytkjghlmlfanafaa
open Go.RowKit Go.Extern.Stop Go.Stop Go.Extern Go.Maps
def xA : ByteArray := ⟨#[97]⟩
def xB : ByteArray := ⟨#[98]⟩
def xX : ByteArray := ⟨#[120]⟩
def xY : ByteArray := ⟨#[121]⟩
def it33 (t who : ByteArray) : IV := ⟨t, e0, 0, false, none, 0, 0, e0, 0, 0, e0, who, none, 0, 0, false⟩
def l33 : IL := [it33 xA xX, it33 xA e0, it33 xA e0, it33 xB e0]
theorem w_eq : IV.w = fun m => m.who.data.toList.isEmpty := by
  funext m
  unfold IV.w
  rw [ByteArray.toList_eq]
theorem s_eq : IV.s = fun m => !m.who.data.toList.isEmpty := by
  funext m
  unfold IV.s
  rw [w_eq]
theorem q1 : ownS l33 xA = (xX, true) := by
  unfold ownS
  rw [s_eq]
  rfl
theorem q2 : headN l33 4 = [1, 3] := by
  unfold headN headI
  rw [w_eq]
  decide
theorem q3 : mayB l33 1 xX = true := by
  unfold mayB badI
  rw [w_eq]
  decide
theorem q4 : mayB l33 1 xY = false := by
  unfold mayB badI
  rw [w_eq]
  decide
theorem q5 : mayB l33 2 xX = false := by
  unfold mayB badI
  rw [w_eq]
  decide
theorem q6 : mayB l33 3 xY = true := by
  unfold mayB badI
  rw [w_eq]
  decide
theorem q7 : sndB l33 = true := by
  unfold sndB
  rw [s_eq]
  decide
theorem q8 : ∀ m ∈ l33, m.topic.size ≤ 1000 := by
  intro m hm
  unfold l33 at hm
  simp only [List.mem_cons, List.not_mem_nil, or_false] at hm
  rcases hm with rfl | rfl | rfl | rfl <;> exact Nat.le_of_lt (by decide)
theorem l33_rd (w : World) : ItRd (w.alloc (.cells #[.string ⟨#[97]⟩, .string ⟨#[]⟩, .int .i64 0, .bool false, .slice none 0 0, .string ⟨#[]⟩, .int .i64 0, .int .i64 0, .string ⟨#[]⟩, .string ⟨#[120]⟩, .slice none 0 0, .bool false, .string ⟨#[97]⟩, .string ⟨#[]⟩, .int .i64 0, .bool false, .slice none 0 0, .string ⟨#[]⟩, .int .i64 0, .int .i64 0, .string ⟨#[]⟩, .string ⟨#[]⟩, .slice none 0 0, .bool false, .string ⟨#[97]⟩, .string ⟨#[]⟩, .int .i64 0, .bool false, .slice none 0 0, .string ⟨#[]⟩, .int .i64 0, .int .i64 0, .string ⟨#[]⟩, .string ⟨#[]⟩, .slice none 0 0, .bool false, .string ⟨#[98]⟩, .string ⟨#[]⟩, .int .i64 0, .bool false, .slice none 0 0, .string ⟨#[]⟩, .int .i64 0, .int .i64 0, .string ⟨#[]⟩, .string ⟨#[]⟩, .slice none 0 0, .bool false] 69)) (some ⟨w.heap.size, 0, none⟩) l33 := by
  intro _
  refine ⟨_, _, rfl, fun k hk => ?_⟩
  have hb := Blk.made w 69 #[.string ⟨#[97]⟩, .string ⟨#[]⟩, .int .i64 0, .bool false, .slice none 0 0, .string ⟨#[]⟩, .int .i64 0, .int .i64 0, .string ⟨#[]⟩, .string ⟨#[120]⟩, .slice none 0 0, .bool false, .string ⟨#[97]⟩, .string ⟨#[]⟩, .int .i64 0, .bool false, .slice none 0 0, .string ⟨#[]⟩, .int .i64 0, .int .i64 0, .string ⟨#[]⟩, .string ⟨#[]⟩, .slice none 0 0, .bool false, .string ⟨#[97]⟩, .string ⟨#[]⟩, .int .i64 0, .bool false, .slice none 0 0, .string ⟨#[]⟩, .int .i64 0, .int .i64 0, .string ⟨#[]⟩, .string ⟨#[]⟩, .slice none 0 0, .bool false, .string ⟨#[98]⟩, .string ⟨#[]⟩, .int .i64 0, .bool false, .slice none 0 0, .string ⟨#[]⟩, .int .i64 0, .int .i64 0, .string ⟨#[]⟩, .string ⟨#[]⟩, .slice none 0 0, .bool false]
  have hk4 : k < 4 := hk
  rcases k with _ | _ | _ | _ | k
  · exact ⟨hb.cell 0, hb.cell 1, hb.cell 2, hb.cell 3, hb.cell 4, hb.cell 5, hb.cell 6, hb.cell 7, hb.cell 8, hb.cell 9, hb.cell 10, hb.cell 11⟩
  · exact ⟨hb.cell 12, hb.cell 13, hb.cell 14, hb.cell 15, hb.cell 16, hb.cell 17, hb.cell 18, hb.cell 19, hb.cell 20, hb.cell 21, hb.cell 22, hb.cell 23⟩
  · exact ⟨hb.cell 24, hb.cell 25, hb.cell 26, hb.cell 27, hb.cell 28, hb.cell 29, hb.cell 30, hb.cell 31, hb.cell 32, hb.cell 33, hb.cell 34, hb.cell 35⟩
  · exact ⟨hb.cell 36, hb.cell 37, hb.cell 38, hb.cell 39, hb.cell 40, hb.cell 41, hb.cell 42, hb.cell 43, hb.cell 44, hb.cell 45, hb.cell 46, hb.cell 47⟩
  · omega
section
variable {w : World}
theorem two_rd (w : World) : KRd (w.alloc (.cells #[.int .i64 1, .int .i64 3] 3)) (some ⟨w.heap.size, 0, none⟩) [1, 3] := by
  intro _
  refine ⟨_, _, rfl, fun k hk => ?_⟩
  have hb := Blk.made w 3 #[.int .i64 1, .int .i64 3]
  have hk2 : k < 2 := hk
  rcases k with _ | _ | k
  · exact hb.cell 0
  · exact hb.cell 1
  · omega
set_option maxHeartbeats 1000000 in
set_option maxRecDepth 10000 in
theorem awake33 (w : World) : Calls Try.prog 42 #[] w fun x w' => x = .returned (.bool true) ∧ Below w.heap.size w w' := by
  obtain ⟨w0, hw0⟩ : ∃ w0, w0 = w.alloc (.cells #[.string ⟨#[97]⟩, .string ⟨#[]⟩, .int .i64 0, .bool false, .slice none 0 0, .string ⟨#[]⟩, .int .i64 0, .int .i64 0, .string ⟨#[]⟩, .string ⟨#[120]⟩, .slice none 0 0, .bool false, .string ⟨#[97]⟩, .string ⟨#[]⟩, .int .i64 0, .bool false, .slice none 0 0, .string ⟨#[]⟩, .int .i64 0, .int .i64 0, .string ⟨#[]⟩, .string ⟨#[]⟩, .slice none 0 0, .bool false, .string ⟨#[97]⟩, .string ⟨#[]⟩, .int .i64 0, .bool false, .slice none 0 0, .string ⟨#[]⟩, .int .i64 0, .int .i64 0, .string ⟨#[]⟩, .string ⟨#[]⟩, .slice none 0 0, .bool false, .string ⟨#[98]⟩, .string ⟨#[]⟩, .int .i64 0, .bool false, .slice none 0 0, .string ⟨#[]⟩, .int .i64 0, .int .i64 0, .string ⟨#[]⟩, .string ⟨#[]⟩, .slice none 0 0, .bool false] 69) := ⟨_, rfl⟩
  obtain ⟨g, hg⟩ : ∃ g, g = w.heap.size := ⟨_, rfl⟩
  have hr := l33_rd w
  rw [← hw0, ← hg] at hr
  have hb0 : Below w.heap.size w w0 := by rw [hw0]; exact (Below.refl _ _).alloc (Nat.le_refl _) _
  have HB0 := Lib.hid hb0
  have R := Lib.hid (fun W (hl : Ltr w0 W) => show ItRd W (some ⟨g, 0, none⟩) l33 from hr.below hl)
  have C43 := Lib.hid (fun W (hl : Ltr w0 W) => (owner_lane (R.out W hl) 4 4 rfl (by omega) q8 xA (by decide)).mono fun x w' hx => show x = .returned (.tuple #[.string ⟨#[120]⟩, .bool true]) ∧ Ltr w0 w' from ⟨by rw [hx.1, q1]; rfl, hl.next hx.2⟩)
  have C47 := Lib.hid (fun W (hl : Ltr w0 W) => (head_lane (R.out W hl) 4 4 rfl (by omega) q8).mono fun x w' (hx : HeadSays W l33 x w') => show ∃ a c, x = .returned (.slice a 2 c) ∧ KRd w' a [1, 3] ∧ Ltr w0 w' from by
    obtain ⟨v, rfl, hk, hb⟩ := hx
    have hk' : KRow w' W.heap.size v [1, 3] := q2 ▸ hk
    obtain ⟨a, c, rfl⟩ := hk'.form
    exact ⟨a, c, rfl, hk'.rd, hl.next hb⟩)
  have C49a := Lib.hid (fun W (hl : Ltr w0 W) => (may_lane (R.out W hl) 4 4 rfl (by omega) 1 xX).mono fun x w' hx => show x = .returned (.bool true) ∧ Ltr w0 w' from ⟨by rw [hx.1, q3], hl.next hx.2⟩)
  have C49b := Lib.hid (fun W (hl : Ltr w0 W) => (may_lane (R.out W hl) 4 4 rfl (by omega) 1 xY).mono fun x w' hx => show x = .returned (.bool false) ∧ Ltr w0 w' from ⟨by rw [hx.1, q4], hl.next hx.2⟩)
  have C49c := Lib.hid (fun W (hl : Ltr w0 W) => (may_lane (R.out W hl) 4 4 rfl (by omega) 2 xX).mono fun x w' hx => show x = .returned (.bool false) ∧ Ltr w0 w' from ⟨by rw [hx.1, q5], hl.next hx.2⟩)
  have C49d := Lib.hid (fun W (hl : Ltr w0 W) => (may_lane (R.out W hl) 4 4 rfl (by omega) 3 xY).mono fun x w' hx => show x = .returned (.bool true) ∧ Ltr w0 w' from ⟨by rw [hx.1, q6], hl.next hx.2⟩)
  have C51 := Lib.hid (fun W (hl : Ltr w0 W) => (sound_lane (R.out W hl) 4 4 rfl (by omega) q8).mono fun x w' hx => show x = .returned (.bool true) ∧ Ltr w0 w' from ⟨by rw [hx.1, q7], hl.next hx.2⟩)
  have C45 := Lib.hid (fun W (hl : Ltr w0 W) => (key_any (it33 xA xX) W).mono fun x w' hx => show x = .returned (.string ⟨#[97]⟩) ∧ Ltr w0 w' from ⟨by rw [hx.1]; rfl, hl.next hx.2⟩)
  have KS := Lib.hid (fun W (hl : Ltr w0 W) => show W.cell? ⟨g, 0, none⟩ = some (.string ⟨#[97]⟩) ∧ W.cell? ⟨g, 1, none⟩ = some (.string ⟨#[]⟩) ∧ W.cell? ⟨g, 2, none⟩ = some (.int .i64 0) ∧ W.cell? ⟨g, 3, none⟩ = some (.bool false) ∧ W.cell? ⟨g, 4, none⟩ = some (.slice none 0 0) ∧ W.cell? ⟨g, 5, none⟩ = some (.string ⟨#[]⟩) ∧ W.cell? ⟨g, 6, none⟩ = some (.int .i64 0) ∧ W.cell? ⟨g, 7, none⟩ = some (.int .i64 0) ∧ W.cell? ⟨g, 8, none⟩ = some (.string ⟨#[]⟩) from by
    obtain ⟨g', off, e, hc⟩ := R.out W hl (by decide)
    obtain ⟨rfl, rfl⟩ : g = g' ∧ 0 = off := by
      have := Option.some.inj e
      injection this with h1 h2
      exact ⟨h1, h2⟩
    have h := hc 0 (by decide)
    exact ⟨h.c0, h.c1, h.c2, h.c3, h.c4, h.c5, h.c6, h.c7, h.c8⟩)
  clear hr hb0
  unfold xX at C49a C49c
  unfold xY at C49b C49d
  unfold xA at C43
  unfold IV.msg at C45
  dsimp only [it33, e0, xA] at C45
  go_enter Try.func42, Try.ntmps42
  go_wp2_with fail
  rw [← hw0, ← hg]
  clear hw0 hg
  refine (C43.out _ (Below.refl _ _)).mono ?_
  rintro x w1 ⟨rfl, hl1⟩
  have H1 := Lib.hid hl1
  clear hl1
  go_wp2_with fail
  refine (C47.out _ H1.out).mono ?_
  rintro x w2 ⟨a2, c2, rfl, hk2, hl2⟩
  have H2 := Lib.hid hl2
  have HK := Lib.hid (hk2.below ((Below.refl _ w2).alloc (Nat.le_refl _) (.cells #[.int .i64 1, .int .i64 3] 3)))
  have HL2 := Lib.hid (Below.alloc hl2 hl2.size (.cells #[.int .i64 1, .int .i64 3] 3))
  have HT := Lib.hid (two_rd w2)
  clear hk2 hl2
  go_wp2_with fail
  refine (sameints_any HK.out HT.out 2 c2 2 rfl (by omega)).mono ?_
  rintro x w3 ⟨rfl, d, rfl⟩
  have H3 := Lib.hid (show Ltr w0 _ from below_drewN HL2.out d)
  generalize (w2.alloc (.cells #[.int .i64 1, .int .i64 3] 3)).drewN d = w3 at *
  clear HK HL2 HT
  go_wp2_with fail
  refine (C49a.out _ H3.out).mono ?_
  rintro x w4 ⟨rfl, hl4⟩
  have H4 := Lib.hid hl4
  clear hl4
  go_wp2_with fail
  refine (C49b.out _ H4.out).mono ?_
  rintro x w5 ⟨rfl, hl5⟩
  have H5 := Lib.hid hl5
  clear hl5
  go_wp2_with fail
  refine (C49c.out _ H5.out).mono ?_
  rintro x w6 ⟨rfl, hl6⟩
  have H6 := Lib.hid hl6
  clear hl6
  go_wp2_with fail
  refine (C49d.out _ H6.out).mono ?_
  rintro x w7 ⟨rfl, hl7⟩
  have H7 := Lib.hid hl7
  clear hl7
  go_wp2_with fail
  refine (C51.out _ H7.out).mono ?_
  rintro x w8 ⟨rfl, hl8⟩
  have H8 := Lib.hid hl8
  clear hl8
  obtain ⟨s0, s1, s2, s3, s4, s5, s6, s7, s8⟩ := KS.out _ H8.out
  go_wp2_with fail
  refine (C45.out _ H8.out).mono ?_
  rintro x w9 ⟨rfl, hl9⟩
  have HE := Lib.hid (HB0.out.trans (Below.mono hl9 HB0.out.size))
  clear hl9 s0 s1 s2 s3 s4 s5 s6 s7 s8
  go_wp2_with fail
  go_ret
  exact ⟨rfl, HE.out⟩
end
end Go.Proofs.Ytkjghlmlfanafaa
