/- What is proved here: numbers that came in, the document's, an empty one of the document's, and those that nobody made, side by side. Condition: there are few. -/
import Derived.Test.YtbicoiciapngdaaNo25
namespace Go.Proofs.Ytbicoiciapngdaa
open Go.RowKit Go.Extern.Stop Go.Stop Go.Extern Go.Maps

theorem NearI.blk {B g : Nat} {w w' : World} (h : NearI B g w w') {x : Nat} {t : TypeId} {cs : Array Value} (hb : Blk w x t cs) (hx : x ≠ g) (ht : t ≠ 92) : Blk w' x t cs := by
  obtain ⟨X, hf, hX⟩ := h
  refine hb.fr hf fun hm => ?_
  rcases (hX x hm).2 with h1 | ⟨cur, f, h1⟩
  · exact hx h1
  · exact hb.other h1 ht rfl
theorem NearI.own {w0 w w' : World} {gy g : Nat} {n : Int} {s : Q25} {cs : Array Value} (h : NearI w0.heap.size gy w w') (ho : OwnIn w0 w g n s) (hy : Blk w gy 77 cs) : OwnIn w0 w' g n s := by
  obtain ⟨h1, h2, ⟨⟨bm, b1, m1, hB⟩, hfew⟩, hok⟩ := ho
  have b1' := h.blk b1 (b1.other hy (by decide)) (by decide)
  obtain ⟨X, hf, hX⟩ := h
  refine ⟨hf.later h1 (fun b hm => (hX b hm).1) h1.size, h2, ⟨⟨bm, b1', m1.fr hf fun hm => ?_, hB⟩, hfew⟩, hok⟩
  rcases (hX bm hm).2 with e | ⟨cur, f, e⟩
  · exact (m1.ne hy) e.symm
  · obtain ⟨D, ⟨es, clock, hh, _⟩, _⟩ := m1
    rw [hh] at e
    cases e
/-- All of them. -/
structure Play (w0 w : World) (g gy gz g0 gs : Nat) (n : Int) (s : Q25) (L : PL) : Prop where
  own : OwnIn w0 w g n s
  y : IsRefI w w0.heap.size gy n L
  z : Blk w gz 77 #[.int .i64 0, .slice none 0 0]
  yz : gz ≠ gy
  zero : Blk w g0 80 #[.int .i64 0, .map none]
  nob : Blk w gs 72 #[.pointer none, .pointer (some ⟨g0, 0, none⟩)]
section
variable {w0 w : World} {g gy gz g0 gs : Nat} {n : Int} {s : Q25} {L : PL}
theorem Play.kept (h : Play w0 w g gy gz g0 gs n s L) {w' : World} {s' : Q25} (ho : OwnIn w0 w' g n s') (hk : Keeps w w') : Play w0 w' g gy gz g0 gs n s' L := by
  obtain ⟨h1, ⟨⟨v, b1, r1⟩, hB⟩, h3, h4, h5, h6⟩ := h
  refine ⟨ho, ⟨⟨v, hk _ _ _ b1, r1.1, ?_⟩, hB⟩, hk _ _ _ h3, h4, hk _ _ _ h5, hk _ _ _ h6⟩
  rcases r1.2 with h | ⟨gr, cap, cur, e, hB2, hh, h7⟩
  · exact .inl h
  · exact .inr ⟨gr, cap, cur, e, hB2, hk gr 92 cur hh, h7⟩
theorem Play.same (h : Play w0 w g gy gz g0 gs n s L) {w' : World} (hf : Fr [] w w') : Play w0 w' g gy gz g0 gs n s L := h.kept (h.own.same hf) (Keeps.of_fr hf)
theorem Play.near (h : Play w0 w g gy gz g0 gs n s L) {w' : World} {L' : PL} (hr : IsRefI w' w0.heap.size gy n L') (hn : NearI w0.heap.size gy w w') : Play w0 w' g gy gz g0 gs n s L' := by
  obtain ⟨h1, ⟨⟨v, b1, r1⟩, hB⟩, h3, h4, h5, h6⟩ := h
  exact ⟨hn.own h1 b1, hr, hn.blk h3 h4 (by decide), h4, hn.blk h5 (h5.other b1 (by decide)) (by decide), hn.blk h6 (h6.other b1 (by decide)) (by decide)⟩
theorem near_a (h : Play w0 w g gy gz g0 gs n s L) {w' : World} (hn : NearI w0.heap.size gy w w') {ga : Nat} {cs : Array Value} (ha : Blk w ga 83 cs) : Blk w' ga 83 cs := by
  obtain ⟨h1, ⟨⟨v, b1, r1⟩, hB⟩, h3, h4, h5, h6⟩ := h
  exact hn.blk ha (ha.other b1 (by decide)) (by decide)
/-- The document's Take, where there is no room and there are none. -/
theorem refz_take {g : Nat} (hb : Blk w g 77 #[.int .i64 0, .slice none 0 0]) (id qos : Int) : Calls Try.prog 46 #[.pointer (some ⟨g, 0, none⟩), .int .i64 id, .int .i64 qos] w fun e w' => e = .returned (.int .i64 (none25 1 qos)) ∧ Fr [] w w' := by
  have HI : IsRefI w 0 g 0 [] := ⟨⟨_, hb, rfl, .inl ⟨rfl, rfl⟩⟩, Nat.zero_le _⟩
  have HF := Lib.hid (refi_find_no HI (by simp) id (fun j hj => absurd hj (by simp)))
  clear HI
  have c0 := hb.cell 0
  have c1 := hb.cell 1
  by_cases hq : qos ≠ 1 ∧ qos ≠ 2
  · have e : none25 1 qos = 4 := by unfold none25; rw [if_pos rfl, if_pos hq]
    rw [e]
    have q1 : (qos != 1) = true := by rw [bne_iff_ne]; exact hq.1
    have q2 : (qos != 2) = true := by rw [bne_iff_ne]; exact hq.2
    clear e hq
    go_enter Try.func46, Try.ntmps46
    go_wp2_with fail
    go_ret
    exact ⟨rfl, Fr.refl _ _⟩
  · have e : none25 1 qos = 3 := by unfold none25; rw [if_pos rfl, if_neg hq]
    rw [e]
    have hq' : qos = 1 ∨ qos = 2 := by omega
    clear hq e
    rcases hq' with rfl | rfl
    all_goals
      go_enter Try.func46, Try.ntmps46
      go_wp2_with fail
      refine (HF.out).mono ?_
      rintro e w' ⟨rfl, rfl⟩
      go_wp2_with fail
      go_quiet (fail)
      go_wp2_with fail
      go_ret
      exact ⟨rfl, (Fr.refl _ _).drewN _⟩
theorem play_start {w1 : World} (h : OwnIn w0 w1 g n s) :
    Play w0 ((((w1.alloc (.cells #[.int .i64 n, .slice none 0 0] 77)).alloc (.cells #[.int .i64 0, .slice none 0 0] 77)).alloc (.cells #[.int .i64 0, .map none] 80)).alloc (.cells #[.pointer none, .pointer (some ⟨w1.heap.size + 1 + 1, 0, none⟩)] 72)) g w1.heap.size (w1.heap.size + 1) (w1.heap.size + 1 + 1) (w1.heap.size + 1 + 1 + 1) n s [] := by
  have e : ∀ (W : World) (o : Obj), (W.alloc o).heap.size = W.heap.size + 1 := fun W o => by simp
  have hy := Blk.made w1 77 #[.int .i64 n, .slice none 0 0]
  have hz := Blk.made (w1.alloc (.cells #[.int .i64 n, .slice none 0 0] 77)) 77 #[.int .i64 0, .slice none 0 0]
  have h0 := Blk.made ((w1.alloc (.cells #[.int .i64 n, .slice none 0 0] 77)).alloc (.cells #[.int .i64 0, .slice none 0 0] 77)) 80 #[.int .i64 0, .map none]
  have hs := Blk.made (((w1.alloc (.cells #[.int .i64 n, .slice none 0 0] 77)).alloc (.cells #[.int .i64 0, .slice none 0 0] 77)).alloc (.cells #[.int .i64 0, .map none] 80)) 72 #[.pointer none, .pointer (some ⟨w1.heap.size + 1 + 1, 0, none⟩)]
  simp only [e] at hz h0 hs
  exact ⟨h.same (((((Fr.refl _ _).alloc _).alloc _).alloc _).alloc _), ⟨⟨_, ((hy.alloc _).alloc _).alloc _, rfl, .inl ⟨rfl, rfl⟩⟩, h.below.size⟩, (hz.alloc _).alloc _, by omega, h0.alloc _, hs⟩
end
end Go.Proofs.Ytbicoiciapngdaa
