/- What is proved here: the document's words on messages under way come true of some (awake). No conditions. -/
import Derived.Test.YtpaalhhadjihlaaAga24
import Derived.Test.YtpaalhhadjihlaaOpg24
namespace Go.Proofs.Ytpaalhhadjihlaa
open Go.RowKit Go.Extern.Stop Go.Stop Go.Extern Go.Maps
set_option maxRecDepth 100000
def ma : QV := ⟨⟨⟨#[97]⟩, e0, 0, false, [], e0, 0, 0, e0⟩, none, 0⟩
def mb : QV := ⟨⟨⟨#[98]⟩, e0, 0, false, [], e0, 0, 0, ⟨#[103]⟩⟩, none, 0⟩
def ackP (k id : Int) : Pk := { pk0 with kind := k, id := id }
theorem builtK (k id : Int) : Try.prog.built 49 [(0, .int .i64 k), (1, .int .i64 id)] = some ((ackP k id).cells pa0) := by kernel_rfl
theorem scan_now {m : Int → Bool} {most last : Nat} (hp : 0 < most) (h : m (cand most last 0) = false) : scan m most last most 0 = some (cand most last 0) := by
  obtain ⟨f, rfl⟩ : ∃ f, most = f + 1 := ⟨most - 1, by omega⟩
  unfold scan
  rw [h]
  rfl
/-- What stands in a walk over one Out that began at w. -/
structure AwI (w W : World) (g gp bp bm : Nat) (L : FL) (last sent : Nat) : Prop where
  out : OutI W g gp bp bm L last sent
  bel : Below w.heap.size w W
  ge : w.heap.size ≤ g ∧ w.heap.size ≤ gp ∧ w.heap.size ≤ bp ∧ w.heap.size ≤ bm
section
variable {w W W' : World} {g gp bp bm : Nat} {L L' : FL} {last sent last' sent' : Nat}
theorem AwI.on (h : AwI w W g gp bp bm L last sent) (h2 : Out3 W g gp bp bm L' last' sent' W') : AwI w W' g gp bp bm L' last' sent' :=
  ⟨h2.1, h2.2.later h.bel (fun k hk => by
    obtain ⟨g1, g2, g3, g4⟩ := h.ge
    simp only [List.mem_cons, List.not_mem_nil, or_false] at hk
    rcases hk with rfl | rfl | rfl | rfl <;> assumption) h.bel.size, h.ge⟩
theorem AwI.below (h : AwI w W g gp bp bm L last sent) (hb : Below W.heap.size W W') : AwI w W' g gp bp bm L last sent :=
  ⟨h.out.below hb, h.bel.trans (hb.mono h.bel.size), h.ge⟩
/-- A block of another kind stays. -/
theorem Out3.blk {t : TypeId} {b : Nat} {cs : Array Value} (h2 : Out3 W g gp bp bm L' last' sent' W') (hn : b ∉ [g, gp, bp, bm]) (hb : Blk W b t cs) : Blk W' b t cs := hb.fr h2.2 hn
/-- One made behind them is none of theirs. -/
theorem OutI.none {b : Nat} (h : OutI W g gp bp bm L last sent) (hb : W.heap.size ≤ b) : b ∉ [g, gp, bp, bm] := by
  have l1 := h.blk.lt
  have l2 := h.pids.is.1.lt
  have l3 := h.pids.is.2.lt
  have l4 := h.map.lt
  intro hk
  simp only [List.mem_cons, List.not_mem_nil, or_false] at hk
  omega
end
/-- The first cell of a block that is none of theirs. -/
structure Ck (W : World) (g gp bp bm b : Nat) (u : Value) : Prop where
  lt : b < W.heap.size
  ne : b ∉ [g, gp, bp, bm]
  at0 : W.cell? ⟨b, 0, none⟩ = some u
section
variable {W W' : World} {g gp bp bm b : Nat} {u : Value} {L' : FL} {last' sent' : Nat}
theorem Ck.on (h : Ck W g gp bp bm b u) (h2 : Out3 W g gp bp bm L' last' sent' W') : Ck W' g gp bp bm b u := ⟨Nat.lt_of_lt_of_le h.lt h2.2.size, h.ne, (h2.2.cell h.lt h.ne).trans h.at0⟩
theorem Ck.below (h : Ck W g gp bp bm b u) (hb : Below W.heap.size W W') : Ck W' g gp bp bm b u := ⟨Nat.lt_of_lt_of_le h.lt hb.size, h.ne, (World.cell?_of_block (w := W) (hb.block b h.lt)).trans h.at0⟩
end
def LA (pa : Option Addr) (pc : Nat) : FL := [⟨1, 1, ⟨ma.m, pa, pc⟩, 1⟩]
def LB (pa : Option Addr) (pc : Nat) (pb : Option Addr) (pd : Nat) : FL := [⟨1, 1, ⟨ma.m, pa, pc⟩, 1⟩, ⟨2, 2, ⟨mb.m, pb, pd⟩, 2⟩]
def LC (pb : Option Addr) (pd : Nat) : FL := [⟨2, 2, ⟨mb.m, pb, pd⟩, 2⟩]
def LD (pb : Option Addr) (pd : Nat) : FL := [⟨2, 3, ⟨mb.m, pb, pd⟩, 2⟩]
section
variable {w W : World} {g gp bp bm : Nat} {pa pb : Option Addr} {pc pd : Nat}
theorem aw_a (h : AwI w W g gp bp bm [] 0 0) : Calls Try.prog 8 #[.pointer (some ⟨g, 0, none⟩), ma.agg, .int .i64 1] W fun e w' => e = .returned (.tuple #[.int .i64 1, .bool true]) ∧ ∃ pa pc, Out3 W g gp bp bm (LA pa pc) 1 1 w' :=
  (send_ok (B := 0) h.out ⟨Nat.zero_le _, Nat.zero_le _, Nat.zero_le _⟩ ma (PIn.nil _ _ _) (by decide) 1 (.inl rfl) (by decide) (x := 1) (scan_now (by decide) rfl)).mono fun _ _ hx => hx
theorem aw_b (h : AwI w W g gp bp bm (LA pa pc) 1 1) : Calls Try.prog 8 #[.pointer (some ⟨g, 0, none⟩), mb.agg, .int .i64 2] W fun e w' => e = .returned (.tuple #[.int .i64 2, .bool true]) ∧ ∃ pb pd, Out3 W g gp bp bm (LB pa pc pb pd) 2 2 w' :=
  (send_ok (B := 0) h.out ⟨Nat.zero_le _, Nat.zero_le _, Nat.zero_le _⟩ mb (PIn.nil _ _ _) (by decide) 2 (.inr rfl) (by decide) (x := 2) (scan_now (by decide) rfl)).mono fun _ _ hx => hx
theorem aw_c (h : AwI w W g gp bp bm (LB pa pc pb pd) 2 2) : Calls Try.prog 10 #[.pointer (some ⟨g, 0, none⟩), .agg ((ackP 4 1).cells pa0)] W fun e w' => ∃ p c, e = .returned (.tuple #[.int .i64 1, QV.agg ⟨ma.m, p, c⟩]) ∧ Out3 W g gp bp bm (LC pb pd) 2 2 w' :=
  (ack_end h.out _ rfl 4 1 0 rfl rfl rfl (v := ⟨1, 1, ⟨ma.m, pa, pc⟩, 1⟩) (List.mem_cons_self ..) rfl (n := 1) rfl (.inl rfl)).mono fun _ _ ⟨p, c, he, _, ho⟩ => ⟨p, c, he, ho⟩
theorem aw_d (h : AwI w W g gp bp bm (LC pb pd) 2 2) : Calls Try.prog 10 #[.pointer (some ⟨g, 0, none⟩), .agg ((ackP 5 2).cells pa0)] W fun e w' => ∃ p c, e = .returned (.tuple #[.int .i64 3, QV.agg ⟨mb.m, p, c⟩]) ∧ Out3 W g gp bp bm (LD pb pd) 2 2 w' :=
  (ack_rel h.out _ rfl 5 2 0 rfl rfl rfl (v := ⟨2, 2, ⟨mb.m, pb, pd⟩, 2⟩) (List.mem_cons_self ..) rfl rfl).mono fun _ _ ⟨p, c, he, _, ho⟩ => ⟨p, c, he, ho⟩
theorem aw_f (h : AwI w W g gp bp bm (LD pb pd) 2 2) : Calls Try.prog 10 #[.pointer (some ⟨g, 0, none⟩), .agg ((ackP 7 2).cells pa0)] W fun e w' => ∃ p c, e = .returned (.tuple #[.int .i64 4, QV.agg ⟨mb.m, p, c⟩]) ∧ Out3 W g gp bp bm [] 2 2 w' :=
  (ack_end h.out _ rfl 7 2 0 rfl rfl rfl (v := ⟨2, 3, ⟨mb.m, pb, pd⟩, 2⟩) (List.mem_cons_self ..) rfl (n := 4) rfl (.inr (.inr rfl))).mono fun _ _ ⟨p, c, he, _, ho⟩ => ⟨p, c, he, ho⟩
theorem aw_e (h : AwI w W g gp bp bm (LD pb pd) 2 2) : Calls Try.prog 21 #[.pointer (some ⟨g, 0, none⟩)] W fun e w' => ∃ gr c, e = .returned (.slice (some ⟨gr, 0, none⟩) 1 c) ∧ W.heap.size ≤ gr ∧ gr < w'.heap.size ∧ w'.cell? ⟨gr, 0, none⟩ = some (.int .i64 6) ∧ Below W.heap.size W w' :=
  (again_any h.out).mono fun _ _ ⟨v, M, he, hr, hm, _, hb⟩ => by
    have hl : M.length = 1 := by have := congrArg List.length hm; simpa [LD] using this
    obtain ⟨a, c, rfl⟩ := hr.form
    obtain ⟨gr, rfl, hlt, hc⟩ := hr.cell (by omega)
    have hc0 := hc 0 0 (by omega) (by omega)
    rw [hl] at he
    have h6 : ((M.getD 0 (pk0, pa0)).1.cells (M.getD 0 (pk0, pa0)).2)[0]? = some (.int .i64 6) := by
      obtain ⟨x, rfl⟩ : ∃ x, M = [x] := List.length_eq_one_iff.1 hl
      have e1 : x.1 = relP 2 := by
        have := hm
        simp only [List.map_cons, List.map_nil, LD] at this
        exact (List.cons.inj this).1
      show (x.1.cells x.2)[0]? = _
      rw [e1]
      rfl
    refine ⟨gr, c, he, (hr.lt gr rfl).1, hlt, ?_, hb⟩
    rw [← h6, ← hc0]
end
set_option maxHeartbeats 4000000 in
theorem awake24 (w : World) : Calls Try.prog 5 #[] w fun x w' => x = .returned (.bool true) ∧ Below w.heap.size w w' := by
  have HN := Lib.hid (out_new w)
  have BK4 := Lib.hid (builtK 4 1)
  have BK5 := Lib.hid (builtK 5 2)
  have BK7 := Lib.hid (builtK 7 2)
  go_enter Try.func5, Try.ntmps5
  go_wp2_with fail
  refine HN.out.mono ?_
  rintro x w1 ⟨g, gp, bp, bm, rfl, ho, h1, h2, h3, h4, hb⟩
  have HI := Lib.hid (show AwI w w1 g gp bp bm [] 0 0 from ⟨ho, hb, h1, h2, h3, h4⟩)
  have HA := Lib.hid (aw_a HI.out)
  unfold QV.agg ma e0 at HA
  clear ho h1 h2 h3 h4 hb HN
  go_wp2_with fail
  refine HA.out.mono ?_
  rintro x w2 ⟨rfl, pa, pc, ho⟩
  have HI2 := Lib.hid (HI.out.on ho)
  have HA2 := Lib.hid (aw_b HI2.out)
  unfold QV.agg mb e0 at HA2
  clear ho HA HI
  go_wp2_with fail
  refine HA2.out.mono ?_
  rintro x w3 ⟨rfl, pb, pd, ho⟩
  have HI3 := Lib.hid (HI2.out.on ho)
  have HA3 := Lib.hid (aw_c HI3.out)
  clear ho HA2 HI2
  go_wp2_with (refine wpo_built BK4.out rfl rfl rfl ?_; simp only [Act.put, List.setIfInBounds_toArray, List.set_cons_zero, List.set_cons_succ])
  refine HA3.out.mono ?_
  rintro x w4 ⟨p4, c4, rfl, ho⟩
  have HI4 := Lib.hid (HI3.out.on ho)
  have HO := Lib.hid (Own.start [] w4)
  clear ho HA3 HI3
  unfold QV.agg ma e0
  dsimp only
  go_upto_region 5 with (first
    | (refine wpo_alloc tyMs HO.out rfl rfl ?_; clear HO; rintro k7 w5 hO; have HO := Lib.hid hO; clear hO; simp only [Act.put, List.setIfInBounds_toArray, List.set_cons_zero, List.set_cons_succ])
    | (refine wpo_store (k := k7) HO.out 0 tyMs rfl _ _ rfl rfl rfl rfl rfl rfl rfl ?_; clear HO; rintro w6 hO; have HO := Lib.hid hO; clear hO; simp only [Act.put]))
  have HI5 := Lib.hid (HI4.out.below HO.out.bel)
  have HM5 := Lib.hid (show Ck w6 g gp bp bm k7 (.string ⟨#[97]⟩) from ⟨(HO.out.get 0 rfl).lt, HI4.out.out.none (own_ge HO.out 0 rfl), (HO.out.get 0 rfl).cell 0⟩)
  have HA5 := Lib.hid (aw_d HI5.out)
  clear HO HI4
  go_wp2_with (refine wpo_built BK5.out rfl rfl rfl ?_; simp only [Act.put, List.setIfInBounds_toArray, List.set_cons_zero, List.set_cons_succ])
  refine HA5.out.mono ?_
  rintro x w7 ⟨p7, c7, rfl, ho⟩
  have HI7 := Lib.hid (HI5.out.on ho)
  have HM7 := Lib.hid (HM5.out.on ho)
  have HO := Lib.hid (Own.start [] w7)
  clear ho HA5 HI5 HM5
  unfold QV.agg mb e0
  dsimp only
  go_upto_region 6 with (first
    | (refine wpo_alloc tyMs HO.out rfl rfl ?_; clear HO; rintro k9 w8 hO; have HO := Lib.hid hO; clear hO; simp only [Act.put, List.setIfInBounds_toArray, List.set_cons_zero, List.set_cons_succ])
    | (refine wpo_store (k := k9) HO.out 0 tyMs rfl _ _ rfl rfl rfl rfl rfl rfl rfl ?_; clear HO; rintro w9 hO; have HO := Lib.hid hO; clear hO; simp only [Act.put]))
  have HI9 := Lib.hid (HI7.out.below HO.out.bel)
  have HM9 := Lib.hid (HM7.out.below HO.out.bel)
  have HA9 := Lib.hid (aw_e HI9.out)
  clear HO HI7 HM7
  go_wp2_with fail
  refine HA9.out.mono ?_
  rintro x w10 ⟨gr, cr, rfl, hg1, hg2, hg3, hb⟩
  have HI10 := Lib.hid (HI9.out.below hb)
  have HM10 := Lib.hid (HM9.out.below hb)
  have HR10 := Lib.hid (show Ck w10 g gp bp bm gr (.int .i64 6) from ⟨hg2, HI9.out.out.none hg1, hg3⟩)
  have HA10 := Lib.hid (aw_f HI10.out)
  clear hg1 hg2 hg3 hb HA9 HI9 HM9
  go_wp2_with (refine wpo_built BK7.out rfl rfl rfl ?_; simp only [Act.put, List.setIfInBounds_toArray, List.set_cons_zero, List.set_cons_succ])
  refine HA10.out.mono ?_
  rintro x w11 ⟨p11, c11, rfl, ho⟩
  have HI11 := Lib.hid (HI10.out.on ho)
  have HM11 := Lib.hid (HM10.out.on ho)
  have HR11 := Lib.hid (HR10.out.on ho)
  have HO := Lib.hid (Own.start [] w11)
  clear ho HA10 HI10 HM10 HR10
  unfold QV.agg mb e0
  dsimp only
  go_upto_region 8 with (first
    | (refine wpo_alloc tyMs HO.out rfl rfl ?_; clear HO; rintro k12 w12 hO; have HO := Lib.hid hO; clear hO; simp only [Act.put, List.setIfInBounds_toArray, List.set_cons_zero, List.set_cons_succ])
    | (refine wpo_store (k := k12) HO.out 0 tyMs rfl _ _ rfl rfl rfl rfl rfl rfl rfl ?_; clear HO; rintro w13 hO; have HO := Lib.hid hO; clear hO; simp only [Act.put]))
  have HI13 := Lib.hid (HI11.out.below HO.out.bel)
  have c7 := (HM11.out.below HO.out.bel).at0
  have c6 := (HR11.out.below HO.out.bel).at0
  have HA13 := Lib.hid (out_len HI13.out.out)
  clear HO HI11 HM11 HR11
  go_wp2_with fail
  refine HA13.out.mono ?_
  rintro x w14 ⟨rfl, rfl⟩
  go_wp2_with fail
  go_ret
  exact ⟨rfl, HI13.out.bel⟩
end Go.Proofs.Ytpaalhhadjihlaa
