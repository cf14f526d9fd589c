/- What is proved here: the document's words on queues come true of one (awake). No conditions. -/
import Derived.Test.YtcfbfnlbdkgfkaaLef27
namespace Go.Proofs.Ytcfbfnlbdkgfkaa
open Go.RowKit Go.Extern.Stop Go.Stop Go.Extern
set_option maxRecDepth 100000
def ma : QV := ⟨⟨⟨#[97]⟩, e0, 0, false, [], e0, 5, 0, e0⟩, none, 0⟩
def mb : QV := ⟨⟨⟨#[98]⟩, e0, 0, false, [], e0, 0, 0, e0⟩, none, 0⟩
def mc : QV := ⟨⟨⟨#[99]⟩, e0, 0, false, [], e0, 0, 0, e0⟩, none, 0⟩
def m9 : QV := ⟨⟨e0, e0, 0, false, [], e0, 9, 0, e0⟩, none, 0⟩
def Q2 (w0 w' : World) (g : Nat) (x y : Ending) (L : List MV) : Prop := x = y ∧ ∃ v' L', QObj w' w0.heap.size g 2 v' L' ∧ L'.map QV.m = L ∧ Below w0.heap.size w0 w'
theorem QNext.later {w0 w w' : World} {B g : Nat} {most : Int} {v v' : Value} {L : QL} (h : QNext w w' B g most v v' L) (hB : B = w0.heap.size) (hv : ∀ k, v.ownBlock = some k → B ≤ k) (hb : Below w0.heap.size w0 w) : Below w0.heap.size w0 w' :=
  h.fr.later hb (fun k hk => by
    rcases List.mem_cons.1 hk with rfl | hk
    · rw [← hB]; exact h.obj.low
    · rw [← hB]; exact hv k (own_list.1 hk)) hb.size
set_option maxHeartbeats 2000000 in
theorem awake27 (w : World) : Calls Try.prog 34 #[] w fun x w' => x = .returned (.bool true) ∧ Below w.heap.size w w' := by
  have HN := Lib.hid (fun W => qnew_any 2 W)
  have HPA := Lib.hid (fun W (v : Value) g (h : QObj W w.heap.size g 2 v []) (hb : Below w.heap.size w W) => (push_room h ma (PIn.nil _ _ _) (by simp [ma]) (by simp) (by simp)).mono fun x w' ⟨he, pa, pc, v', hn⟩ =>
    show x = Ending.returned (.bool true) ∧ ∃ v' pa pc, QObj w' w.heap.size g 2 v' [⟨ma.m, pa, pc⟩] ∧ Below w.heap.size w w' from ⟨he, v', pa, pc, hn.obj, hn.later rfl (fun k hk => (h.row.lt k hk).1) hb⟩)
  have HPB := Lib.hid (fun W (v : Value) g pa pc (h : QObj W w.heap.size g 2 v [⟨ma.m, pa, pc⟩]) (hb : Below w.heap.size w W) => (push_room h mb (PIn.nil _ _ _) (by simp [mb]) (by simp) (by simp)).mono fun x w' ⟨he, pa2, pc2, v', hn⟩ =>
    show x = Ending.returned (.bool true) ∧ ∃ v' pa2 pc2, QObj w' w.heap.size g 2 v' [⟨ma.m, pa, pc⟩, ⟨mb.m, pa2, pc2⟩] ∧ Below w.heap.size w w' from ⟨he, v', pa2, pc2, hn.obj, hn.later rfl (fun k hk => (h.row.lt k hk).1) hb⟩)
  have HPC := Lib.hid (fun W (v : Value) g pa pc pa2 pc2 (h : QObj W w.heap.size g 2 v [⟨ma.m, pa, pc⟩, ⟨mb.m, pa2, pc2⟩]) (hb : Below w.heap.size w W) => (push_full h mc (by simp)).mono fun x w' ⟨he, hb2⟩ =>
    show x = Ending.returned (.bool false) ∧ QObj w' w.heap.size g 2 v [⟨ma.m, pa, pc⟩, ⟨mb.m, pa2, pc2⟩] ∧ Below w.heap.size w w' from ⟨he, h.below hb2, hb.trans (hb2.mono hb.size)⟩)
  have HPO := Lib.hid (fun W (v : Value) g pa pc pa2 pc2 (h : QObj W w.heap.size g 2 v [⟨ma.m, pa, pc⟩, ⟨mb.m, pa2, pc2⟩]) (hb : Below w.heap.size w W) => (pop_any h (by simp) (by simp [ma, mb]) 5).mono fun x w' ⟨v', hn, hx⟩ =>
    show ∃ v' pa pc, x = Ending.returned (.tuple #[QV.agg ⟨mb.m, pa, pc⟩, .bool true]) ∧ QObj w' w.heap.size g 2 v' [] ∧ Below w.heap.size w w' from by
      have el : leftQ 5 [⟨ma.m, pa, pc⟩, ⟨mb.m, pa2, pc2⟩] = [⟨mb.m, pa2, pc2⟩] := rfl
      rw [el] at hn hx
      rcases hx with ⟨h0, _⟩ | ⟨q, L', pa3, pc3, h1, h2, _⟩
      · cases h0
      · have hq := (List.cons.inj h1).1
        subst hq
        exact ⟨v', pa3, pc3, h2, hn.obj, hn.later rfl (fun k hk => (h.row.lt k hk).1) hb⟩)
  have HLE := Lib.hid (fun W (hb : Below w.heap.size w W) => (left_any (w := W) (B := 0) (B2 := 0) m9 5 (PIn.nil _ _ _) (by simp [m9]) (by simp [m9])).mono fun x w' ⟨hb2, hx⟩ =>
    show ∃ pa pc, x = Ending.returned (.tuple #[QV.agg ⟨leftV m9.m 5, pa, pc⟩, .bool true]) ∧ PIn w' 0 pa (leftV m9.m 5).props ∧ Below w.heap.size w w' from by
      rcases hx with ⟨h1, _⟩ | ⟨_, pa, pc, h2, h3⟩
      · exact absurd h1 (by decide)
      · exact ⟨pa, pc, h2, h3, hb.trans (hb2.mono hb.size)⟩)
  have el : leftV m9.m 5 = ⟨e0, e0, 0, false, [⟨2, 4, e0, e0⟩], e0, 9, 0, e0⟩ := rfl
  rw [el] at HLE
  clear el
  have HLEN := Lib.hid (fun W (v : Value) g (h : QObj W w.heap.size g 2 v []) => (qlen_any h).mono fun x w' ⟨he, hw⟩ => show x = Ending.returned (.int .i64 0) ∧ W = w' from ⟨he, hw⟩)
  have HNU := Lib.hid (fun W A c (h : PIn W 0 A [⟨2, 4, e0, e0⟩]) => num_first h 1 c rfl (by omega) 0)
  unfold QV.agg ma mb mc m9 e0 at *
  dsimp only [List.length_nil, List.length_cons] at *
  go_enter Try.func34, Try.ntmps34
  go_wp2_with fail
  refine (HN.out _).mono ?_
  rintro x w1 ⟨rfl, rfl⟩
  have hb1 : Below w.heap.size w (w.alloc (.cells #[.int .i64 2, .slice none 0 0] 80)) := (Below.refl _ _).alloc (Nat.le_refl _) _
  have HQ1 := Lib.hid (QObj.made w 2 (Nat.le_refl _))
  have HB1 := Lib.hid hb1
  clear hb1 HN
  go_wp2_with fail
  refine (HPA.out _ _ _ HQ1.out HB1.out).mono ?_
  rintro x w2 ⟨rfl, v2, pa, pc, hq2, hb2⟩
  have HQ2 := Lib.hid hq2
  have HB2 := Lib.hid hb2
  clear hq2 hb2 HPA HQ1 HB1
  go_wp2_with fail
  refine (HPB.out _ _ _ _ _ HQ2.out HB2.out).mono ?_
  rintro x w3 ⟨rfl, v3, pa2, pc2, hq3, hb3⟩
  have HQ3 := Lib.hid hq3
  have HB3 := Lib.hid hb3
  clear hq3 hb3 HPB HQ2 HB2
  go_wp2_with fail
  refine (HPC.out _ _ _ _ _ _ _ HQ3.out HB3.out).mono ?_
  rintro x w4 ⟨rfl, hq4, hb4⟩
  have HQ4 := Lib.hid hq4
  have HB4 := Lib.hid hb4
  clear hq4 hb4 HPC HQ3 HB3
  go_wp2_with fail
  refine (HPO.out _ _ _ _ _ _ _ HQ4.out HB4.out).mono ?_
  rintro x w5 ⟨v5, pa5, pc5, rfl, hq5, hb5⟩
  have HQ5 := Lib.hid hq5
  have HB5 := Lib.hid hb5
  clear hq5 hb5 HPO HQ4 HB4
  have hbm : Below w5.heap.size w5 (w5.alloc (.cells #[.string ⟨#[98]⟩, .string ⟨#[]⟩, .int .i64 0, .bool false, .slice pa5 0 pc5, .string ⟨#[]⟩, .int .i64 0, .int .i64 0, .string ⟨#[]⟩] 36)) := (Below.refl _ _).alloc (Nat.le_refl _) _
  have HQ6 := Lib.hid (HQ5.out.below hbm)
  have HB6 := Lib.hid (HB5.out.trans (hbm.mono HB5.out.size))
  have HM6 := Lib.hid (Blk.made w5 36 #[.string ⟨#[98]⟩, .string ⟨#[]⟩, .int .i64 0, .bool false, .slice pa5 0 pc5, .string ⟨#[]⟩, .int .i64 0, .int .i64 0, .string ⟨#[]⟩])
  have HLB := Lib.hid (fun W (hb : Below (w5.alloc (.cells #[.string ⟨#[98]⟩, .string ⟨#[]⟩, .int .i64 0, .bool false, .slice pa5 0 pc5, .string ⟨#[]⟩, .int .i64 0, .int .i64 0, .string ⟨#[]⟩] 36)).heap.size (w5.alloc (.cells #[.string ⟨#[98]⟩, .string ⟨#[]⟩, .int .i64 0, .bool false, .slice pa5 0 pc5, .string ⟨#[]⟩, .int .i64 0, .int .i64 0, .string ⟨#[]⟩] 36)) W) => And.intro (HQ6.out.below hb) (HM6.out.below hb HM6.out.lt))
  have HL2 := Lib.hid ((left_any (w := (w5.alloc (.cells #[.string ⟨#[98]⟩, .string ⟨#[]⟩, .int .i64 0, .bool false, .slice pa5 0 pc5, .string ⟨#[]⟩, .int .i64 0, .int .i64 0, .string ⟨#[]⟩] 36))) (B := 0) (B2 := 0) m9 5 (PIn.nil _ _ _) (by simp [m9]) (by simp [m9])).mono fun x w' ⟨hb2, hx⟩ =>
    show ∃ pa pc, x = Ending.returned (.tuple #[QV.agg ⟨⟨e0, e0, 0, false, [⟨2, 4, e0, e0⟩], e0, 9, 0, e0⟩, pa, pc⟩, .bool true]) ∧ PIn w' 0 pa [⟨2, 4, e0, e0⟩] ∧ Below w.heap.size w w' ∧ QObj w' w.heap.size w.heap.size 2 v5 [] ∧ Blk w' w5.heap.size 36 #[.string ⟨#[98]⟩, .string ⟨#[]⟩, .int .i64 0, .bool false, .slice pa5 0 pc5, .string ⟨#[]⟩, .int .i64 0, .int .i64 0, .string ⟨#[]⟩] from by
      rcases hx with ⟨h1, _⟩ | ⟨_, pa, pc, h2, h3⟩
      · exact absurd h1 (by decide)
      · exact ⟨pa, pc, h2, h3, HB6.out.trans (hb2.mono HB6.out.size), (HLB.out _ hb2).1, (HLB.out _ hb2).2⟩)
  unfold QV.agg m9 e0 at HL2
  dsimp only [List.length_nil, List.length_cons] at HL2
  clear hbm HLB HM6 HB6 HQ6 HQ5 HB5 HLE
  go_wp2_with fail
  refine HL2.out.mono ?_
  rintro x w6 ⟨pa6, pc6, rfl, hp6, hb6, hq6, hm6⟩
  have hbx : Below w6.heap.size w6 (w6.alloc (.cells #[.string ⟨#[]⟩, .string ⟨#[]⟩, .int .i64 0, .bool false, .slice pa6 1 pc6, .string ⟨#[]⟩, .int .i64 9, .int .i64 0, .string ⟨#[]⟩] 36)) := (Below.refl _ _).alloc (Nat.le_refl _) _
  have HLE7 := Lib.hid (HLEN.out _ _ _ (hq6.below hbx))
  have HNU7 := Lib.hid (HNU.out _ pa6 pc6 (hp6.below hbx))
  have t0 := (hm6.below hbx hm6.lt).cell 0
  have HB7 := Lib.hid (hb6.trans (hbx.mono hb6.size))
  simp only [List.getElem?_toArray, List.getElem?_cons_zero] at t0
  clear hp6 hb6 hq6 hm6 hbx HLEN HNU HL2
  go_wp2_with fail
  refine HLE7.out.mono ?_
  rintro x w7 ⟨rfl, rfl⟩
  go_wp2_with fail
  refine HNU7.out.mono ?_
  rintro x w8 ⟨rfl, hb8⟩
  have HB8 := Lib.hid (HB7.out.trans (hb8.mono HB7.out.size))
  clear hb8
  go_wp2_with fail
  go_ret
  exact ⟨rfl, HB8.out⟩
end Go.Proofs.Ytcfbfnlbdkgfkaa
