/- What is proved here: whether bounds may be, by the program and by the document. Condition: what the rows list of the package's variables. What is proved here: what the document says of bounds; the small functions of package script and of the document. No conditions but those that each theorem names. -/
import Derived.Test.YtaoaoobabjepnaaDoorSc43
import Derived.Test.YtaoaoobabjepnaaDoorOwn
import Derived.Test.YtaoaoobabjepnaaDoorEnv
import Derived.Deep.QuietTactic
import Derived.BigQuiet
import Derived.Deep.DeepMust
import Derived.Test.YtaoaoobabjepnaaDoorRegT
import Derived.Deep.DeepCutAuto
namespace Go.Proofs.YtaoaoobabjepnaaDoor
set_option maxRecDepth 100000
open Go.ChangeShapes Go.WideShapes Go.RowKit Go.Deep Go.Extern.Stop Go.Stop Go.Extern
theorem tyX : Ty Tryd.prog 32 #[.int .i64 0, .int .i64 0, .int .i64 0] := ty_mk (n := 3) (by kernel_rfl) rfl Tryd.underlying32 rfl (by kernel_rfl) rfl
theorem tyR : Ty Tryd.prog 54 #[.string ⟨#[]⟩, .int .i64 0, .int .i64 0, .int .i64 0] := ty_mk (n := 4) (by kernel_rfl) rfl Tryd.underlying54 rfl (by kernel_rfl) rfl
theorem tyI : Ty1 Tryd.prog 3 := ⟨by kernel_rfl, _, Tryd.underlying3, rfl⟩
theorem tyS : Ty1 Tryd.prog 9 := ⟨by kernel_rfl, _, Tryd.underlying9, rfl⟩
theorem tyE : Ty1 Tryd.prog 30 := ⟨by kernel_rfl, _, Tryd.underlying30, rfl⟩
theorem mixed : Tryd.prog.follows .mixedOrders = true := by kernel_rfl
theorem tyC : Ty Tryd.prog 24 (cfgC zC) := ty_mk (n := 13) (by kernel_rfl) rfl Tryd.underlying24 rfl (by kernel_rfl) rfl
theorem tyBd : Ty Tryd.prog 70 (cfgC zC) := ty_mk (n := 13) (by kernel_rfl) rfl Tryd.underlying70 rfl (by kernel_rfl) rfl
theorem tyB1 : Ty Tryd.prog 91 #[.int .i64 0, .int .i64 0, .int .i64 0] := ty_mk (n := 3) (by kernel_rfl) rfl Tryd.underlying91 rfl (by kernel_rfl) rfl
theorem tyEv : Ty Tryd.prog 44 #[.int .i64 0, .int .i64 0, .string ⟨#[]⟩, .int .i64 0] := ty_mk (n := 4) (by kernel_rfl) rfl Tryd.underlying44 rfl (by kernel_rfl) rfl
theorem cfg_size (C : Nat → Int) : (cfgC C).size = 13 := rfl
theorem cfg_one (C : Nat → Int) : (cfgC C).toList.all (·.oneCell') = true := by unfold cfgC; simp [Value.oneCell']
/-- An error of a call. -/
def ErrT (w : World) (S : Nat → Addr) (q : ER) (e : Value) : Prop := ErrOf w S q.2.1 q.1 q.2.2 e
theorem ErrT.later {w w' : World} {S : Nat → Addr} {q : ER} {e : Value} (h : ErrT w S q e) (hb : Below w.heap.size w w') : ErrT w' S q e := ErrOf.later h hb
theorem errT_nil (w : World) (S : Nat → Addr) (q : ER) (h : q.1 = 0) : ErrT w S q .nilIface := by unfold ErrT ErrOf; rw [if_pos h]
theorem ErrT.isNil {w : World} {S : Nat → Addr} {q : ER} {e : Value} (h : ErrT w S q e) (h0 : q.1 = 0) : e = .nilIface := by unfold ErrT ErrOf at h; rw [if_pos h0] at h; exact h
theorem ErrT.isErr {w : World} {S : Nat → Addr} {q : ER} {e : Value} (h : ErrT w S q e) (h0 : q.1 ≠ 0) : ∃ t u, e = .iface t u := by
  obtain ⟨t, u, rfl⟩ := err_iface h h0
  exact ⟨t, u, rfl⟩
/-- All bounds, each with the least and the greatest number that it may be. -/
def bndC (C : Nat → Int) : Array Value := #[.int .i64 (C 0), .int .i64 1, .int .i64 8, .int .i64 (C 1), .int .i64 64, .int .i64 65536, .int .i64 (C 2), .int .i64 1, .int .i64 65535, .int .i64 (C 3), .int .i64 0, .int .i64 65535, .int .i64 (C 4), .int .i64 0, .int .i64 65536, .int .i64 (C 5), .int .i64 0, .int .i64 65536, .int .i64 (C 6), .int .i64 64, .int .i64 1048576, .int .i64 (C 7), .int .i64 0, .int .i64 16777216, .int .i64 (C 8), .int .i64 1, .int .i64 8, .int .i64 (C 9), .int .i64 0, .int .i64 65536, .int .i64 (C 10), .int .i64 0, .int .i64 65535, .int .i64 (C 11), .int .i64 0, .int .i64 4294967295, .int .i64 (C 12), .int .i64 0, .int .i64 4294967295]
theorem bnd_at (C : Nat → Int) (i : Nat) (h : i < 13) : (bndC C)[i * 3]? = some (.int .i64 (C i)) ∧ (bndC C)[i * 3 + 1]? = some (.int .i64 (leC i)) ∧ (bndC C)[i * 3 + 2]? = some (.int .i64 (moC i)) := by
  have hi : i = 0 ∨ i = 1 ∨ i = 2 ∨ i = 3 ∨ i = 4 ∨ i = 5 ∨ i = 6 ∨ i = 7 ∨ i = 8 ∨ i = 9 ∨ i = 10 ∨ i = 11 ∨ i = 12 := by omega
  rcases hi with rfl | rfl | rfl | rfl | rfl | rfl | rfl | rfl | rfl | rfl | rfl | rfl | rfl <;> exact ⟨rfl, rfl, rfl⟩
theorem blk_made2 {w : World} {o : Obj} {t : TypeId} {c : Array Value} : Blk ((w.alloc o).alloc (.cells c t)) (w.heap.size + 1) t c := by
  have h := Blk.made (w.alloc o) t c
  rw [World.size_alloc] at h
  exact h
section
variable {w w' : World} {S : Nat → Addr}
set_option maxHeartbeats 4000000 in
theorem bounds_any (C : Nat → Int) (w : World) : Calls Tryd.prog 54 #[.agg (cfgC C)] w fun x w' => ∃ g, x = .returned (.slice (some ⟨g, 0, none⟩) 13 13) ∧ Blk w' g 91 (bndC C) ∧ Below w.heap.size w w' := by
  unfold cfgC bndC
  generalize C 0 = c0
  generalize C 1 = c1
  generalize C 2 = c2
  generalize C 3 = c3
  generalize C 4 = c4
  generalize C 5 = c5
  generalize C 6 = c6
  generalize C 7 = c7
  generalize C 8 = c8
  generalize C 9 = c9
  generalize C 10 = c10
  generalize C 11 = c11
  generalize C 12 = c12
  go_enter Tryd.func54, Tryd.ntmps54
  go_wp2
  go_ret
  exact ⟨_, rfl, blk_made2, ((Below.refl _ _).alloc (Nat.le_refl _) _).alloc (by simp) _⟩
theorem chk_more {C : Nat → Int} {i : Nat} (h : i < 13) : chkF C (13 - i) i = if C i < leC i ∨ moC i < C i then (7, 131, i) else chkF C (13 - (i + 1)) (i + 1) := by
  rw [show 13 - i = (13 - (i + 1)) + 1 from by omega]
  rfl
set_option maxHeartbeats 4000000 in
theorem tcheck_any (hE : Env w S) (C : Nat → Int) : Calls Tryd.prog 28 #[.agg (cfgC C)] w fun x w' => ∃ e, x = .returned e ∧ ErrT w' S (chkV C) e ∧ Below w.heap.size w w' := by
  obtain ⟨q, hq⟩ : ∃ q, q = chkV C := ⟨_, rfl⟩
  rw [← hq]
  have HBD := Lib.hid (fun W => bounds_any C W)
  have HAT := Lib.hid (fun i h => bnd_at C i h)
  have HCH := Lib.hid (fun i h => chk_more (C := C) (i := i) h)
  have HCS := Lib.hid (cfg_size C)
  generalize cfgC C = c at *
  have HE := Lib.hid hE
  have HQ := Lib.hid (show q = chkF C (13 - 0) 0 from hq)
  have HO := Lib.hid (Own.start [] w)
  clear hE hq
  go_enter Tryd.func28, Tryd.ntmps28
  go_wp2_with (first | (refine wpo_box (t := 24) HO.out _ rfl rfl rfl ?_; clear HO; rintro k1 W1 hO; have HO := Lib.hid hO; clear hO; simp only [Act.put, List.setIfInBounds_toArray, List.set_cons_zero, List.set_cons_succ]) | (refine wpo_load HO.out 0 tyC rfl HCS.out _ rfl rfl rfl ?_))
  refine (HBD.out _).mono ?_
  rintro x w1 ⟨g, rfl, hb, hbel⟩
  have HB := Lib.hid hb
  have HW1 := Lib.hid (HO.out.bel.trans (hbel.mono HO.out.bel.size))
  clear hb hbel HBD HO
  go_wp2_with fail
  go_loopg [8] 13 (fun f x wr => ∃ i : Nat, f = 13 - i ∧ i ≤ 13 ∧ x = .int .i64 i ∧ Hid (q = chkF C (13 - i) i ∧ Below w1.heap.size w1 wr))
  case atStart => exact ⟨0, rfl, Nat.zero_le _, rfl, Lib.hid ⟨HQ.out, Below.refl _ _⟩⟩
  case round =>
    obtain ⟨i, rfl, hi, rfl, HR⟩ := hrel
    clear HQ
    by_cases hlt : i < 13
    · obtain ⟨a0, a1, a2⟩ := HAT.out i hlt
      have hb := HB.out.below HR.out.2 HB.out.lt
      have c0 : wr.cell? ⟨g, 0 + i * 3, none⟩ = some (.int .i64 (C i)) := by rw [Nat.zero_add, hb.cell, a0]
      have c1 : wr.cell? ⟨g, 0 + i * 3 + 1, none⟩ = some (.int .i64 (leC i)) := by rw [Nat.zero_add, hb.cell, a1]
      have c2 : wr.cell? ⟨g, 0 + i * 3 + 2, none⟩ = some (.int .i64 (moC i)) := by rw [Nat.zero_add, hb.cell, a2]
      have hst := HCH.out i hlt
      have HST := Lib.hid (HR.out.1.trans hst)
      have HBL := Lib.hid HR.out.2
      clear a0 a1 a2 hb hst HR
      rw [Nat.zero_add] at c0 c1 c2
      generalize C i = ci at *
      generalize leC i = li at *
      generalize moC i = mi at *
      have HEW := Lib.hid (fun W (hb : Below wr.heap.size wr W) => HE.out.later ((HW1.out.trans (HBL.out.mono HW1.out.size)).trans (hb.mono (Nat.le_trans HW1.out.size HBL.out.size))))
      have HLAST := Lib.hid (fun W (hb : Below wr.heap.size wr W) => (HW1.out.trans (HBL.out.mono HW1.out.size)).trans (hb.mono (Nat.le_trans HW1.out.size HBL.out.size)))
      by_cases h1 : ci < li
      · have hq := HST.out
        rw [if_pos (.inl h1)] at hq
        have HQ2 := Lib.hid hq
        clear hq HST
        have hb1 : Below wr.heap.size wr (wr.alloc (.cells #[.int .i64 ci, .int .i64 li, .int .i64 mi] 91)) := (Below.refl _ _).alloc (Nat.le_refl _) _
        have HB1 := Lib.hid hb1
        have kA := (HEW.out _ hb1).kArgument
        clear hb1
        go_wp2_with fail
        refine (new_err (w := wr.alloc _) S 6 131 (i : Int)).mono ?_
        rintro x w2 ⟨e, rfl, he, hb2⟩
        have HB2 := Lib.hid (HB1.out.trans (hb2.mono HB1.out.size))
        have HER := Lib.hid (show ErrT w2 S q e from by rw [HQ2.out]; exact ErrOf.some (no := 7) (by omega) (by omega) he)
        clear he hb2 kA
        go_wp2_with fail
        go_ret
        exact ⟨_, rfl, HER.out, HLAST.out _ HB2.out⟩
      · by_cases h2 : mi < ci
        · have hq := HST.out
          rw [if_pos (.inr h2)] at hq
          have HQ2 := Lib.hid hq
          clear hq HST
          have hb1 : Below wr.heap.size wr (wr.alloc (.cells #[.int .i64 ci, .int .i64 li, .int .i64 mi] 91)) := (Below.refl _ _).alloc (Nat.le_refl _) _
          have HB1 := Lib.hid hb1
          have kA := (HEW.out _ hb1).kArgument
          clear hb1
          go_wp2_with fail
          refine (new_err (w := wr.alloc _) S 6 131 (i : Int)).mono ?_
          rintro x w2 ⟨e, rfl, he, hb2⟩
          have HB2 := Lib.hid (HB1.out.trans (hb2.mono HB1.out.size))
          have HER := Lib.hid (show ErrT w2 S q e from by rw [HQ2.out]; exact ErrOf.some (no := 7) (by omega) (by omega) he)
          clear he hb2 kA
          go_wp2_with fail
          go_ret
          exact ⟨_, rfl, HER.out, HLAST.out _ HB2.out⟩
        · have hq := HST.out
          rw [if_neg (by rintro (h | h); exact h1 h; exact h2 h)] at hq
          have HQ2 := Lib.hid hq
          clear hq HST
          go_wp2_with fail
          go_roundg (13 - (i + 1))
          case rel => exact ⟨i + 1, rfl, hlt, by go_num, Lib.hid ⟨HQ2.out, HBL.out.alloc HBL.out.size _⟩⟩
          case measure => omega
    · obtain rfl : i = 13 := by omega
      have HX := Lib.hid (HW1.out.trans (HR.out.2.mono HW1.out.size))
      have HER := Lib.hid (errT_nil wr S q (by rw [HR.out.1]; rfl))
      clear HR
      go_wp2_with fail
      go_ret
      exact ⟨_, rfl, HER.out, HX.out⟩
end
end Go.Proofs.YtaoaoobabjepnaaDoor
namespace Go.Proofs.YtaoaoobabjepnaaDoor
set_option maxRecDepth 100000
open Go.ChangeShapes Go.WideShapes Go.RowKit Go.Deep Go.Extern.Stop Go.Stop Go.Extern
theorem tyA13 : Ty Tryd.prog 69 (cfgC zC) := ty_mk (n := 13) (by kernel_rfl) rfl Tryd.underlying69 rfl (by kernel_rfl) rfl
theorem cfg_at (C : Nat → Int) (i : Nat) (h : i < 13) : (cfgC C)[i]? = some (.int .i64 (C i)) := by
  have hi : i = 0 ∨ i = 1 ∨ i = 2 ∨ i = 3 ∨ i = 4 ∨ i = 5 ∨ i = 6 ∨ i = 7 ∨ i = 8 ∨ i = 9 ∨ i = 10 ∨ i = 11 ∨ i = 12 := by omega
  rcases hi with rfl | rfl | rfl | rfl | rfl | rfl | rfl | rfl | rfl | rfl | rfl | rfl | rfl <;> rfl
section
variable {w w' : World} {S : Nat → Addr}
set_option maxHeartbeats 8000000 in
theorem rcheck_any (C : Nat → Int) (w : World) : Calls Tryd.prog 20 #[.agg (cfgC C)] w fun x w' => x = .returned (fltV (chkV C)) ∧ Below w.heap.size w w' := by
  obtain ⟨q, hq⟩ : ∃ q, q = chkV C := ⟨_, rfl⟩
  rw [← hq]
  have HCH := Lib.hid (fun i h => chk_more (C := C) (i := i) h)
  have HAT := Lib.hid (fun i h => cfg_at C i h)
  have HLE := Lib.hid (fun i h => cfg_at leC i h)
  have HMO := Lib.hid (fun i h => cfg_at moC i h)
  have HQ := Lib.hid (show q = chkF C (13 - 0) 0 from hq)
  have HO := Lib.hid (Own.start [] w)
  have HA := Lib.hid (show cfgC C = cfgC C from rfl)
  obtain ⟨cA, hA⟩ : ∃ c, c = cfgC C := ⟨_, rfl⟩
  rw [← hA]
  have g0 := cfg_at C 0 (by decide)
  have g1 := cfg_at C 1 (by decide)
  have g2 := cfg_at C 2 (by decide)
  have g3 := cfg_at C 3 (by decide)
  have g4 := cfg_at C 4 (by decide)
  have g5 := cfg_at C 5 (by decide)
  have g6 := cfg_at C 6 (by decide)
  have g7 := cfg_at C 7 (by decide)
  have g8 := cfg_at C 8 (by decide)
  have g9 := cfg_at C 9 (by decide)
  have g10 := cfg_at C 10 (by decide)
  have g11 := cfg_at C 11 (by decide)
  have g12 := cfg_at C 12 (by decide)
  rw [← hA] at g0 g1 g2 g3 g4 g5 g6 g7 g8 g9 g10 g11 g12
  have HG := Lib.hid (And.intro g0 (And.intro g1 (And.intro g2 (And.intro g3 (And.intro g4 (And.intro g5 (And.intro g6 (And.intro g7 (And.intro g8 (And.intro g9 (And.intro g10 (And.intro g11 g12))))))))))))
  have HBA := Lib.hid (show Tryd.prog.built 69 [(0, .int .i64 (C 0)), (1, .int .i64 (C 1)), (2, .int .i64 (C 2)), (3, .int .i64 (C 3)), (4, .int .i64 (C 4)), (5, .int .i64 (C 5)), (6, .int .i64 (C 6)), (7, .int .i64 (C 7)), (8, .int .i64 (C 8)), (9, .int .i64 (C 9)), (10, .int .i64 (C 10)), (11, .int .i64 (C 11)), (12, .int .i64 (C 12))] = some cA by rw [hA]; kernel_rfl)
  have HCA := Lib.hid hA
  clear hA g0 g1 g2 g3 g4 g5 g6 g7 g8 g9 g10 g11 g12 hq
  have HSA := Lib.hid (show cA.size = 13 by rw [HCA.out]; rfl)
  have HOA := Lib.hid (show cA.toList.all (·.oneCell') = true by rw [HCA.out]; exact cfg_one C)
  go_enter Tryd.func20, Tryd.ntmps20
  go_upto_region 1 with (first | (refine wpo_box (t := 24) HO.out _ rfl rfl rfl ?_; clear HO; rintro k1 W1 hO; have HO := Lib.hid hO; clear hO; simp only [Act.put, List.setIfInBounds_toArray, List.set_cons_zero, List.set_cons_succ]) | (refine wpo_alloc tyX HO.out rfl rfl ?_; clear HO; rintro k2 W2 hO; have HO := Lib.hid hO; clear hO; simp only [Act.put, List.setIfInBounds_toArray, List.set_cons_zero, List.set_cons_succ]))
  have r0 : W2.cell? ⟨k1, 0, none⟩ = some (.int .i64 (C 0)) := ((HO.out.get 1 rfl).cell 0).trans HG.out.1
  have r1 : W2.cell? ⟨k1, 1, none⟩ = some (.int .i64 (C 1)) := ((HO.out.get 1 rfl).cell 1).trans HG.out.2.1
  have r2 : W2.cell? ⟨k1, 2, none⟩ = some (.int .i64 (C 2)) := ((HO.out.get 1 rfl).cell 2).trans HG.out.2.2.1
  have r3 : W2.cell? ⟨k1, 3, none⟩ = some (.int .i64 (C 3)) := ((HO.out.get 1 rfl).cell 3).trans HG.out.2.2.2.1
  have r4 : W2.cell? ⟨k1, 4, none⟩ = some (.int .i64 (C 4)) := ((HO.out.get 1 rfl).cell 4).trans HG.out.2.2.2.2.1
  have r5 : W2.cell? ⟨k1, 5, none⟩ = some (.int .i64 (C 5)) := ((HO.out.get 1 rfl).cell 5).trans HG.out.2.2.2.2.2.1
  have r6 : W2.cell? ⟨k1, 6, none⟩ = some (.int .i64 (C 6)) := ((HO.out.get 1 rfl).cell 6).trans HG.out.2.2.2.2.2.2.1
  have r7 : W2.cell? ⟨k1, 7, none⟩ = some (.int .i64 (C 7)) := ((HO.out.get 1 rfl).cell 7).trans HG.out.2.2.2.2.2.2.2.1
  have r8 : W2.cell? ⟨k1, 8, none⟩ = some (.int .i64 (C 8)) := ((HO.out.get 1 rfl).cell 8).trans HG.out.2.2.2.2.2.2.2.2.1
  have r9 : W2.cell? ⟨k1, 9, none⟩ = some (.int .i64 (C 9)) := ((HO.out.get 1 rfl).cell 9).trans HG.out.2.2.2.2.2.2.2.2.2.1
  have r10 : W2.cell? ⟨k1, 10, none⟩ = some (.int .i64 (C 10)) := ((HO.out.get 1 rfl).cell 10).trans HG.out.2.2.2.2.2.2.2.2.2.2.1
  have r11 : W2.cell? ⟨k1, 11, none⟩ = some (.int .i64 (C 11)) := ((HO.out.get 1 rfl).cell 11).trans HG.out.2.2.2.2.2.2.2.2.2.2.2.1
  have r12 : W2.cell? ⟨k1, 12, none⟩ = some (.int .i64 (C 12)) := ((HO.out.get 1 rfl).cell 12).trans HG.out.2.2.2.2.2.2.2.2.2.2.2.2
  go_upto_region 2 with (first | (refine wpo_built HBA.out rfl rfl rfl ?_) | (refine wpo_alloc tyA13 HO.out rfl rfl ?_; clear HO; rintro k3 W3 hO; have HO := Lib.hid hO; clear hO; simp only [Act.put, List.setIfInBounds_toArray, List.set_cons_zero, List.set_cons_succ]) | (refine wpo_store (k := k3) HO.out 0 tyA13 rfl _ _ rfl rfl rfl rfl rfl HSA.out HOA.out ?_; clear HO; rintro W4 hO; have HO := Lib.hid hO; clear hO; simp only [Act.put]))
  clear r0 r1 r2 r3 r4 r5 r6 r7 r8 r9 r10 r11 r12 HG
  go_upto_region 3 with (first | (refine wpo_alloc tyA13 HO.out rfl rfl ?_; clear HO; rintro k4 W5 hO; have HO := Lib.hid hO; clear hO; simp only [Act.put, List.setIfInBounds_toArray, List.set_cons_zero, List.set_cons_succ]) | (refine wpo_store (c := cfgC leC) (k := k4) HO.out 0 tyA13 rfl _ _ rfl rfl rfl rfl rfl rfl rfl ?_; clear HO; rintro W6 hO; have HO := Lib.hid hO; clear hO; simp only [Act.put]))
  go_upto_region 4 with (first | (refine wpo_alloc tyA13 HO.out rfl rfl ?_; clear HO; rintro k5 W7 hO; have HO := Lib.hid hO; clear hO; simp only [Act.put, List.setIfInBounds_toArray, List.set_cons_zero, List.set_cons_succ]) | (refine wpo_store (c := cfgC moC) (k := k5) HO.out 0 tyA13 rfl _ _ rfl rfl rfl rfl rfl rfl rfl ?_; clear HO; rintro W8 hO; have HO := Lib.hid hO; clear hO; simp only [Act.put]))
  go_wp2_with fail
  go_loopg [6] 13 (fun f x wr => ∃ i : Nat, f = 13 - i ∧ i ≤ 13 ∧ x = .int .i64 i ∧ Hid (q = chkF C (13 - i) i ∧ Own [] w wr [(k5, 69, cfgC moC), (k4, 69, cfgC leC), (k3, 69, cA), (k2, 32, #[.int .i64 0, .int .i64 0, .int .i64 0]), (k1, 24, cA)]))
  case atStart => exact ⟨0, rfl, Nat.zero_le _, rfl, Lib.hid ⟨HQ.out, HO.out⟩⟩
  case round =>
    obtain ⟨i, rfl, hi, rfl, HR⟩ := hrel
    clear HQ HO
    have HO := Lib.hid HR.out.2
    by_cases hlt : i < 13
    · have a0 := HAT.out i hlt
      rw [← HCA.out] at a0
      have c0 : wr.cell? ⟨k3, i, none⟩ = some (.int .i64 (C i)) := by rw [(HO.out.get 2 rfl).cell, a0]
      have c1 : wr.cell? ⟨k4, i, none⟩ = some (.int .i64 (leC i)) := by rw [(HO.out.get 1 rfl).cell, HLE.out i hlt]
      have c2 : wr.cell? ⟨k5, i, none⟩ = some (.int .i64 (moC i)) := by rw [(HO.out.get 0 rfl).cell, HMO.out i hlt]
      have HST := Lib.hid (HR.out.1.trans (HCH.out i hlt))
      clear a0 HR HAT HLE HMO HCH HBA
      generalize C i = ci at *
      generalize leC i = li at *
      generalize moC i = mi at *
      by_cases h1 : ci < li
      · have hq := HST.out
        rw [if_pos (.inl h1)] at hq
        have HQ2 := Lib.hid hq
        clear hq HST
        go_wp2_with fail
        go_quiet (fail)
        clear c0 c1 c2
        have HB := Lib.hid (HO.out.drewN nq)
        clear HO
        have HO := HB
        clear HB
        generalize wr.drewN nq = wq at *
        go_wp2_with (refine wpo_store (k := k2) HO.out 3 tyX rfl _ _ rfl rfl rfl rfl rfl rfl rfl ?_; clear HO; rintro W9 hO; have HO := Lib.hid hO; clear hO; simp only [Act.put])
        exact bodyPost_ret (v := fltV (7, 131, i)) (res_own1 3 HO.out tyX rfl rfl rfl rfl) rfl ⟨by rw [HQ2.out], HO.out.bel⟩
      · by_cases h2 : mi < ci
        · have hq := HST.out
          rw [if_pos (.inr h2)] at hq
          have HQ2 := Lib.hid hq
          clear hq HST
          go_wp2_with fail
          go_quiet (fail)
          clear c0 c1 c2
          have HB := Lib.hid (HO.out.drewN nq)
          clear HO
          have HO := HB
          clear HB
          generalize wr.drewN nq = wq at *
          go_wp2_with (refine wpo_store (k := k2) HO.out 3 tyX rfl _ _ rfl rfl rfl rfl rfl rfl rfl ?_; clear HO; rintro W9 hO; have HO := Lib.hid hO; clear hO; simp only [Act.put])
          exact bodyPost_ret (v := fltV (7, 131, i)) (res_own1 3 HO.out tyX rfl rfl rfl rfl) rfl ⟨by rw [HQ2.out], HO.out.bel⟩
        · have hq := HST.out
          rw [if_neg (by rintro (h | h); exact h1 h; exact h2 h)] at hq
          have HQ2 := Lib.hid hq
          clear hq HST
          go_wp2_with fail
          go_quiet (fail)
          clear c0 c1 c2
          have HB := Lib.hid (HO.out.drewN nq)
          clear HO
          have HO := HB
          clear HB
          generalize wr.drewN nq = wq at *
          go_wp2_with fail
          go_roundg (13 - (i + 1))
          case rel => exact ⟨i + 1, rfl, hlt, by go_num, Lib.hid ⟨HQ2.out, HO.out⟩⟩
          case measure => omega
    · obtain rfl : i = 13 := by omega
      have HQ2 := Lib.hid (show q = er0 from HR.out.1)
      clear HR
      go_wp2_with (first | (refine wpo_zero tyX rfl rfl ?_) | (refine wpo_store (k := k2) HO.out 3 tyX rfl _ _ rfl rfl rfl rfl rfl rfl rfl ?_; clear HO; rintro W9 hO; have HO := Lib.hid hO; clear hO; simp only [Act.put]))
      exact bodyPost_ret (v := fltV er0) (res_own1 3 HO.out tyX rfl rfl rfl rfl) rfl ⟨by rw [HQ2.out], HO.out.bel⟩
end
end Go.Proofs.YtaoaoobabjepnaaDoor
