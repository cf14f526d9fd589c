/- What is proved here: what must come of aliases, whatever the arguments are. Conditions: ErrProtocol is laid, and the handle of the type error. -/
import Derived.Test.YtldpdhliigkboaaDoorIn26
namespace Go.Proofs.YtldpdhliigkboaaDoor
open Go.RowKit Go.Extern.Stop Go.Stop Go.Extern Go.Maps
section
variable {w w' : World} {B g b : Nat} {most : Int} {L : List ByteArray} {s : Addr} {r : Int} {e : Value}
theorem OutObj.fr {X : List Nat} (h : OutObj w B g b most L) (hf : Fr X w w') (hg : g ∉ X) (hb : b ∉ X) : OutObj w' B g b most L := ⟨h.low, h.lowb, h.blk.fr hf hg, h.mp.fr hf hb⟩
theorem OutObj.below (h : OutObj w B g b most L) (hb : Below w.heap.size w w') : OutObj w' B g b most L := h.fr (Fr.of_below (X := []) hb) (by simp) (by simp)
theorem ProtoAt.below {B0 : Nat} (h : ProtoAt w s) (hb : Below B0 w w') (h0 : 0 < B0) : ProtoAt w' s := by
  unfold ProtoAt at *
  exact (World.cell?_of_block (w := w) (hb.block 0 h0)).trans h
theorem FaultIs26.fr {X : List Nat} (h : FaultIs26 w s r e) (hf : Fr X w w') (hx : ∀ k cs t, Blk w k t cs → k ∉ X) : FaultIs26 w' s r e := by
  obtain ⟨k, rfl, hb⟩ := h
  exact ⟨k, rfl, hb.fr hf (hx k _ _ hb)⟩
theorem FaultIs26.below (h : FaultIs26 w s r e) (hb : Below w.heap.size w w') : FaultIs26 w' s r e := h.fr (Fr.of_below (X := []) hb) (by simp)
theorem FaultIs26.name (h : FaultIs26 w s r e) (ho : OutObj w B g b most L) (hf : Fr [b] w w') : FaultIs26 w' s r e := h.fr hf (fun k cs t hk hm => by
  rw [List.mem_singleton] at hm
  exact ho.mp.ne hk hm)
def tT : ByteArray := ⟨#[116]⟩
def tU : ByteArray := ⟨#[117]⟩
theorem n1 : nameO 1 [] tT = (tT, 1, [tT]) := by decide
theorem n2 : nameO 1 [tT] tT = (e0, 1, [tT]) := by decide
theorem n3 : nameO 1 [tT] tU = (tU, 0, [tT]) := by decide
set_option maxHeartbeats 1000000 in
set_option maxRecDepth 100000 in
theorem awake26 (w : World) (hp : ProtoAt w s) (hh : Handle w) : Calls Tryd.prog 7 #[] w fun x w' => x = .returned (.bool true) ∧ Below w.heap.size w w' := by
  have h0 : 0 < w.heap.size := lt_of_cell hp
  have HB1 := Lib.hid ((Below.refl w.heap.size w).alloc (Nat.le_refl _) (.cells #[.int .i64 (limI 2), .slice none 0 0] 33))
  have HK1 := Lib.hid (Blk.made w 33 #[.int .i64 (limI 2), .slice none 0 0])
  have C1 := Lib.hid (newin_any 2 w)
  obtain ⟨ga, hga⟩ : ∃ ga, ga = w.heap.size := ⟨_, rfl⟩
  obtain ⟨w1, hw1⟩ : ∃ w1, w1 = w.alloc (.cells #[.int .i64 (limI 2), .slice none 0 0] 33) := ⟨_, rfl⟩
  have hs1 : w1.heap.size = w.heap.size + 1 := by rw [hw1]; simp
  rw [← hw1, ← hga] at HK1
  rw [← hw1] at HB1 C1
  rw [← hga] at C1
  have C2 := Lib.hid (newout_any 1 w1 (B := w1.heap.size) (Nat.le_refl _))
  have HP := Lib.hid (fun W (hb : Below w.heap.size w W) => hp.below hb h0)
  have HH := Lib.hid (fun W (hb : Below w.heap.size w W) => show Handle W from by
    unfold Handle at *
    exact (World.cell?_of_block (w := w) (hb.block 7 (lt_of_cell hh))).trans hh)
  have HGA := Lib.hid hga
  have HS1 := Lib.hid hs1
  clear hp hh h0 hga hw1 hs1
  go_enter Tryd.func7, Tryd.ntmps7
  go_wp2_with fail
  refine C1.out.mono ?_
  rintro x wa ⟨rfl, rfl⟩
  go_wp2_with fail
  refine C2.out.mono ?_
  rintro x w2 ⟨gb, bm, rfl, ho2, hb2⟩
  have HB2 := Lib.hid (HB1.out.trans (hb2.mono HB1.out.size))
  have hk2 := HK1.out.below hb2 HK1.out.lt
  have hg1 : gb ≠ ga := by have := ho2.low; have := HK1.out.lt; omega
  have hg2 : bm ≠ ga := by have := ho2.lowb; have := HK1.out.lt; omega
  have HO2 := Lib.hid ho2
  have T1 := Lib.hid (topic_first hk2)
  clear ho2 hb2 hk2 C1 C2
  go_wp2_with fail
  refine T1.out.mono ?_
  rintro x w3 ⟨rfl, k, c, hk3, hgk, c0, c1, hf3⟩
  have HB3 := Lib.hid (hf3.later HB2.out (fun y hy => by rw [List.mem_singleton] at hy; rw [hy, HGA.out]; exact Nat.le_refl _) HB2.out.size)
  have HO3 := Lib.hid (HO2.out.fr hf3 (by simpa using hg1) (by simpa using hg2))
  have T2 := Lib.hid (topic_again hk3 c1)
  have T3 := Lib.hid (topic_none (HP.out _ HB3.out) hk3 c0)
  have HK3 := Lib.hid hk3
  clear hk3 c0 c1 hf3 T1 hgk hg1 hg2
  go_wp2_with fail
  refine T2.out.mono ?_
  rintro x w3' ⟨rfl, rfl⟩
  go_wp2_with fail
  refine T3.out.mono ?_
  rintro x w4 ⟨e1, rfl, hf1, hb4⟩
  have HB4 := Lib.hid (HB3.out.trans (hb4.mono HB3.out.size))
  have HO4 := Lib.hid (HO3.out.below hb4)
  have hk4 := HK3.out.below hb4 HK3.out.lt
  have T4 := Lib.hid (topic_bad (HP.out _ HB4.out) hk4)
  obtain ⟨q1, rfl, _⟩ := id hf1
  have HF1 := Lib.hid hf1
  clear hf1 hb4 hk4 T2 T3
  go_wp2_with fail
  refine T4.out.mono ?_
  rintro x w5 ⟨e2, rfl, hf2, hb5⟩
  have HB5 := Lib.hid (HB4.out.trans (hb5.mono HB4.out.size))
  have HO5 := Lib.hid (HO4.out.below hb5)
  have HF15 := Lib.hid (HF1.out.below hb5)
  obtain ⟨q2, rfl, _⟩ := id hf2
  have HF25 := Lib.hid hf2
  have N1 := Lib.hid (name_any HO5.out (by simp) tT (by decide))
  rw [show limI 1 = 1 by decide, n1] at N1
  clear hf2 hb5 T4
  unfold tT at N1
  go_wp2_with fail
  refine N1.out.mono ?_
  rintro x w6 ⟨rfl, ho6, hf6⟩
  dsimp only at ho6 ⊢
  have hb6' := fun (hx : w.heap.size ≤ bm) => hf6.later HB5.out (fun y hy => by rw [List.mem_singleton] at hy; rw [hy]; exact hx) HB5.out.size
  have HBM := Lib.hid (show w.heap.size ≤ bm from Nat.le_trans (by have := HS1.out; omega) HO5.out.lowb)
  have HB6 := Lib.hid (hb6' HBM.out)
  have HF16 := Lib.hid (HF15.out.name HO5.out hf6)
  have HF26 := Lib.hid (HF25.out.name HO5.out hf6)
  have HO6 := Lib.hid ho6
  have N2 := Lib.hid (name_any ho6 (by simp) tT (by decide))
  rw [show ([(⟨#[116]⟩ : ByteArray)]) = [tT] from rfl, n2] at N2
  clear ho6 hf6 hb6' N1
  unfold tT at N2
  go_wp2_with fail
  refine N2.out.mono ?_
  rintro x w7 ⟨rfl, ho7, hf7⟩
  dsimp only at ho7 ⊢
  have HB7 := Lib.hid (hf7.later HB6.out (fun y hy => by rw [List.mem_singleton] at hy; rw [hy]; exact HBM.out) HB6.out.size)
  have HF17 := Lib.hid (HF16.out.name HO6.out hf7)
  have HF27 := Lib.hid (HF26.out.name HO6.out hf7)
  have HO7 := Lib.hid ho7
  have N3 := Lib.hid (name_any ho7 (by simp) tU (by decide))
  rw [show ([(⟨#[116]⟩ : ByteArray)]) = [tT] from rfl, n3] at N3
  clear ho7 hf7 N2
  unfold tU at N3
  go_wp2_with fail
  refine N3.out.mono ?_
  rintro x w8 ⟨rfl, ho8, hf8⟩
  dsimp only at ho8 ⊢
  have HB8 := Lib.hid (hf8.later HB7.out (fun y hy => by rw [List.mem_singleton] at hy; rw [hy]; exact HBM.out) HB7.out.size)
  have hf18 := HF17.out.name HO7.out hf8
  have hf28 := HF27.out.name HO7.out hf8
  have R1 := Lib.hid (show Calls Tryd.prog 12 #[.iface 68 (.pointer (some ⟨q1, 0, none⟩))] w8 fun x w' => x = .returned (.int .i64 130) ∧ Below w8.heap.size w8 w' from by
    obtain ⟨k, e, hb⟩ := hf18
    obtain rfl : q1 = k := by
      injection e with _ e; injection e with e; injection e with e; injection e
    exact reason_fault q1 130 0 _ w8 (HH.out _ HB8.out) hb)
  have HF28 := Lib.hid hf28
  clear ho8 hf8 hf18 hf28 N3
  unfold e0
  go_wp2_with fail
  refine R1.out.mono ?_
  rintro x w9 ⟨rfl, hb9⟩
  have HB9 := Lib.hid (HB8.out.trans (hb9.mono HB8.out.size))
  have R2 := Lib.hid (show Calls Tryd.prog 12 #[.iface 68 (.pointer (some ⟨q2, 0, none⟩))] w9 fun x w' => x = .returned (.int .i64 148) ∧ Below w9.heap.size w9 w' from by
    obtain ⟨k, e, hb⟩ := HF28.out.below hb9
    obtain rfl : q2 = k := by
      injection e with _ e; injection e with e; injection e with e; injection e
    exact reason_fault q2 148 0 _ w9 (HH.out _ HB9.out) hb)
  clear hb9 R1
  go_wp2_with fail
  refine R2.out.mono ?_
  rintro x w10 ⟨rfl, hb10⟩
  have HB10 := Lib.hid (HB9.out.trans (hb10.mono HB9.out.size))
  clear hb10 R2
  go_wp2_with fail
  go_ret
  exact ⟨rfl, HB10.out⟩
end
end Go.Proofs.YtldpdhliigkboaaDoor
