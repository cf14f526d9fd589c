/- What is proved here: an error and the document's, that are the same, are the same to layer 09's statements. Condition: what the rows list of the package's variables. What is proved here: ConnackEncodes answers true for every packet. Condition: what the rows list of the package's variables. -/
import Derived.Test.YtinhecggmakbnaaGreatDoorLawA06
import Derived.Test.YtinhecggmakbnaaGreatDoorRegT
import Derived.Deep.QuietTactic
import Derived.BigQuiet
import Derived.Deep.RegionHeld3
import Derived.Test.YtinhecggmakbnaaGreatDoorReb09
import Derived.Test.YtinhecggmakbnaaGreatDoorAwl09
import Derived.Test.YtinhecggmakbnaaGreatDoorFew08
namespace Go.Proofs.YtinhecggmakbnaaGreatDoor
set_option maxRecDepth 100000
open Go.RowKit Go.Extern.Stop Go.Stop Go.Extern
structure SmIn09E (w W : World) (S : Nat → Addr) (no a : Nat) (r : Int) (e : Value) (g : Nat) : Prop where
  er : ErrOf W S r no a e
  env : EnvN W S
  box : Blk W g 40 #[.int .i64 no, .int .i64 r, .int .i64 a]
  bel : Below w.heap.size w W
theorem SmIn09E.below {w W W' : World} {S : Nat → Addr} {no a : Nat} {r : Int} {e : Value} {g : Nat} (h : SmIn09E w W S no a r e g) (hb : Below W.heap.size W W') : SmIn09E w W' S no a r e g := ⟨h.er.later hb, h.env.later hb, h.box.below hb h.box.lt, h.bel.trans (hb.mono h.bel.size)⟩
theorem SmIn09E.drewN {w W : World} {S : Nat → Addr} {no a : Nat} {r : Int} {e : Value} {g : Nat} (h : SmIn09E w W S no a r e g) (d : Nat) : SmIn09E w (W.drewN d) S no a r e g := h.below (below_drewN (Below.refl _ _) d)
/-- An error and the document's, that are the same. -/
theorem same09E (S : Nat → Addr) (no a : Nat) (r : Int) (e : Value) (w : World) (hE : EnvN w S) (he : ErrOf w S r no a e) :
    Calls Tryz.prog 18 #[e, .agg #[.int .i64 no, .int .i64 r, .int .i64 a]] w fun x w' => x = .returned (.bool true) ∧ Below w.heap.size w w' := by
  have hb0 : Below w.heap.size w (w.alloc (.cells #[.int .i64 no, .int .i64 r, .int .i64 a] 40)) := (Below.refl _ _).alloc (Nat.le_refl _) _
  have hi0 : SmIn09E w (w.alloc (.cells #[.int .i64 no, .int .i64 r, .int .i64 a] 40)) S no a r e w.heap.size := ⟨he.later hb0, hE.later hb0, Blk.made w 40 _, hb0⟩
  have KT := Lib.hid (fun (W : World) (h : SmIn09E w W S no a r e w.heap.size) => show W.cell? ⟨w.heap.size, 0, none⟩ = some (.int .i64 no) ∧ W.cell? ⟨w.heap.size, 1, none⟩ = some (.int .i64 r) ∧ W.cell? ⟨w.heap.size, 2, none⟩ = some (.int .i64 a) from ⟨h.box.cell 0, h.box.cell 1, h.box.cell 2⟩)
  have D14 := Lib.hid (fun (W : World) (h : SmIn09E w W S no a r e w.heap.size) => (number_of h.env h.er).mono fun x w' hx => show x = Ending.returned (.int .i64 no) ∧ SmIn09E w w' S no a r e w.heap.size from ⟨hx.1, h.below hx.2⟩)
  obtain ⟨t0, t1, t2⟩ := KT.out _ hi0
  by_cases h0 : no = 0
  · subst h0
    have he0 := he
    clear he hE hb0
    go_enter Tryz.func18, Tryz.ntmps18
    go_wp2_with fail
    obtain rfl : e = .nilIface := he0
    refine wp_region_held_drew (S := (fun W => SmIn09E w W S 0 a r .nilIface w.heap.size)) (by kernel_rfl) ?_ (fun hHeld => ?_)
    · (first | assumption | exact SmIn09E.drewN (by assumption) 1)
    refine wpAnyH_take (i := 0) (oi := { dst := some 5, op := Op.move (Operand.tmp 0), type := 35, pos := _, after := _, guard := none }) (v := .nilIface) rfl (by kernel_rfl) (by kernel_rfl) (by kernel_rfl) (fun _ _ _ h => h) (Or.inl ⟨by rfl, fun w' _ => ?_⟩) (by assumption) ?_
    · go_simp
    simp only [Act.put, List.setIfInBounds_toArray, List.set_cons_zero, List.set_cons_succ]
    refine wpAnyH_take (i := 2) (oi := { dst := some 7, op := Op.fieldAddr 40 (Operand.tmp 3) 0, type := 0, pos := _, after := _, guard := none }) (v := .pointer (some ⟨w.heap.size, 0, none⟩)) rfl (by kernel_rfl) (by kernel_rfl) (by kernel_rfl) (fun _ _ _ h => h) (Or.inl ⟨by rfl, fun w' _ => ?_⟩) (by assumption) ?_
    · go_simp
    simp only [Act.put, List.setIfInBounds_toArray, List.set_cons_zero, List.set_cons_succ]
    refine wpAnyH_take (i := 3) (oi := { dst := some 8, op := Op.load 38 (Operand.tmp 7), type := 38, pos := _, after := _, guard := none }) (v := .int .i64 ((0 : Nat) : Int)) rfl (by kernel_rfl) (by kernel_rfl) (by kernel_rfl) (fun _ _ _ h => h) (Or.inl ⟨by rfl, fun w' hSw => ?_⟩) (by assumption) ?_
    · (obtain ⟨x0, x1, x2⟩ := KT.out _ hSw; go_simp)
    simp only [Act.put, List.setIfInBounds_toArray, List.set_cons_zero, List.set_cons_succ]
    refine wpAnyH_ready (rs := [1]) (by kernel_rfl) (by simp) ?_
    refine AllReadyH.cons (o := { dst := some 6, op := Op.call { callee := Callee.value (Operand.func 40), args := #[Operand.tmp 5], argTypes := #[35] }, type := 38, pos := _, after := _, guard := none }) rfl (fun K hK => ?_) AllReadyH.nil
    go_simp
    refine (D14.out _ (by assumption)).mono ?_
    rintro x w6 ⟨rfl, hi6⟩
    go_wp2_with fail
    refine hK.out _ _ ?_ (fun hHeld1 => ?_)
    · (first | assumption | exact SmIn09E.drewN (by assumption) 1)
    clear hK K
    try simp only [Act.put, List.setIfInBounds_toArray, List.set_cons_zero, List.set_cons_succ]
    refine wpAnyH_take (i := 4) (oi := { dst := some 9, op := Op.binOp BinOp.eql 38 (Operand.tmp 6) (Operand.tmp 8) 38, type := 4, pos := _, after := _, guard := none }) (v := .bool true) rfl (by kernel_rfl) (by kernel_rfl) (by kernel_rfl) (fun _ _ _ h => h) (Or.inl ⟨by rfl, fun w' _ => ?_⟩) (by assumption) ?_
    · go_simp
    simp only [Act.put, List.setIfInBounds_toArray, List.set_cons_zero, List.set_cons_succ]
    refine wpAnyH_take (i := 5) (oi := { dst := some 10, op := Op.move (Operand.tmp 9), type := 4, pos := _, after := _, guard := none }) (v := .bool true) rfl (by kernel_rfl) (by kernel_rfl) (by kernel_rfl) (fun _ _ _ h => h) (Or.inl ⟨by rfl, fun w' _ => ?_⟩) (by assumption) ?_
    · go_simp
    simp only [Act.put, List.setIfInBounds_toArray, List.set_cons_zero, List.set_cons_succ]
    refine wpAnyH_take (i := 6) (oi := { dst := some 11, op := Op.fieldAddr 40 (Operand.tmp 3) 0, type := 0, pos := _, after := _, guard := some (5, true) }) (v := .pointer (some ⟨w.heap.size, 0, none⟩)) rfl (by kernel_rfl) (by kernel_rfl) (by kernel_rfl) (fun _ _ _ h => h) (Or.inl ⟨by rfl, fun w' _ => ?_⟩) (by assumption) ?_
    · go_simp
    simp only [Act.put, List.setIfInBounds_toArray, List.set_cons_zero, List.set_cons_succ]
    refine wpAnyH_take (i := 7) (oi := { dst := some 12, op := Op.load 38 (Operand.tmp 11), type := 38, pos := _, after := _, guard := some (5, true) }) (v := .int .i64 ((0 : Nat) : Int)) rfl (by kernel_rfl) (by kernel_rfl) (by kernel_rfl) (fun _ _ _ h => h) (Or.inl ⟨by rfl, fun w' hSw => ?_⟩) (by assumption) ?_
    · (obtain ⟨x0, x1, x2⟩ := KT.out _ hSw; go_simp)
    simp only [Act.put, List.setIfInBounds_toArray, List.set_cons_zero, List.set_cons_succ]
    refine wpAnyH_take (i := 8) (oi := { dst := some 13, op := Op.binOp BinOp.eql 38 (Operand.tmp 12) (Operand.const (Value.int IntKind.i64 0)) 38, type := 4, pos := _, after := _, guard := some (5, true) }) (v := .bool true) rfl (by kernel_rfl) (by kernel_rfl) (by kernel_rfl) (fun _ _ _ h => h) (Or.inl ⟨by rfl, fun w' _ => ?_⟩) (by assumption) ?_
    · go_simp
    simp only [Act.put, List.setIfInBounds_toArray, List.set_cons_zero, List.set_cons_succ]
    refine wpAnyH_take (i := 9) (oi := { dst := some 14, op := Op.move (Operand.tmp 13), type := 4, pos := _, after := _, guard := some (5, true) }) (v := .bool true) rfl (by kernel_rfl) (by kernel_rfl) (by kernel_rfl) (fun _ _ _ h => h) (Or.inl ⟨by rfl, fun w' _ => ?_⟩) (by assumption) ?_
    · go_simp
    simp only [Act.put, List.setIfInBounds_toArray, List.set_cons_zero, List.set_cons_succ]
    refine wpAnyH_take (i := 10) (oi := { dst := some 15, op := Op.move (Operand.tmp 0), type := 35, pos := _, after := _, guard := some (9, false) }) (v := undef) rfl (by kernel_rfl) (by kernel_rfl) (by kernel_rfl) (fun _ _ _ h => h) (Or.inr ⟨by rfl, rfl⟩) (by assumption) ?_
    simp only [Act.put, List.setIfInBounds_toArray, List.set_cons_zero, List.set_cons_succ]
    refine wpAnyH_take (i := 11) (oi := { dst := some 16, op := Op.call { callee := Callee.value (Operand.func 44), args := #[Operand.tmp 15], argTypes := #[35] }, type := 3, pos := _, after := _, guard := some (9, false) }) (v := undef) rfl (by kernel_rfl) (by kernel_rfl) (by kernel_rfl) (fun _ _ _ h => h) (Or.inr ⟨by rfl, rfl⟩) (by assumption) ?_
    simp only [Act.put, List.setIfInBounds_toArray, List.set_cons_zero, List.set_cons_succ]
    refine wpAnyH_take (i := 12) (oi := { dst := some 17, op := Op.fieldAddr 40 (Operand.tmp 3) 1, type := 0, pos := _, after := _, guard := some (9, false) }) (v := undef) rfl (by kernel_rfl) (by kernel_rfl) (by kernel_rfl) (fun _ _ _ h => h) (Or.inr ⟨by rfl, rfl⟩) (by assumption) ?_
    simp only [Act.put, List.setIfInBounds_toArray, List.set_cons_zero, List.set_cons_succ]
    refine wpAnyH_take (i := 13) (oi := { dst := some 18, op := Op.load 3 (Operand.tmp 17), type := 3, pos := _, after := _, guard := some (9, false) }) (v := undef) rfl (by kernel_rfl) (by kernel_rfl) (by kernel_rfl) (fun _ _ _ h => h) (Or.inr ⟨by rfl, rfl⟩) (by assumption) ?_
    simp only [Act.put, List.setIfInBounds_toArray, List.set_cons_zero, List.set_cons_succ]
    refine wpAnyH_take (i := 14) (oi := { dst := some 19, op := Op.binOp BinOp.eql 3 (Operand.tmp 16) (Operand.tmp 18) 3, type := 4, pos := _, after := _, guard := some (9, false) }) (v := undef) rfl (by kernel_rfl) (by kernel_rfl) (by kernel_rfl) (fun _ _ _ h => h) (Or.inr ⟨by rfl, rfl⟩) (by assumption) ?_
    simp only [Act.put, List.setIfInBounds_toArray, List.set_cons_zero, List.set_cons_succ]
    refine wpAnyH_take (i := 15) (oi := { dst := some 20, op := Op.move (Operand.tmp 19), type := 4, pos := _, after := _, guard := some (9, false) }) (v := undef) rfl (by kernel_rfl) (by kernel_rfl) (by kernel_rfl) (fun _ _ _ h => h) (Or.inr ⟨by rfl, rfl⟩) (by assumption) ?_
    simp only [Act.put, List.setIfInBounds_toArray, List.set_cons_zero, List.set_cons_succ]
    refine wpAnyH_take (i := 16) (oi := { dst := some 21, op := Op.move (Operand.tmp 0), type := 35, pos := _, after := _, guard := some (15, true) }) (v := undef) rfl (by kernel_rfl) (by kernel_rfl) (by kernel_rfl) (fun _ _ _ h => h) (Or.inr ⟨by rfl, rfl⟩) (by assumption) ?_
    simp only [Act.put, List.setIfInBounds_toArray, List.set_cons_zero, List.set_cons_succ]
    refine wpAnyH_take (i := 17) (oi := { dst := some 22, op := Op.call { callee := Callee.value (Operand.func 45), args := #[Operand.tmp 21], argTypes := #[35] }, type := 3, pos := _, after := _, guard := some (15, true) }) (v := undef) rfl (by kernel_rfl) (by kernel_rfl) (by kernel_rfl) (fun _ _ _ h => h) (Or.inr ⟨by rfl, rfl⟩) (by assumption) ?_
    simp only [Act.put, List.setIfInBounds_toArray, List.set_cons_zero, List.set_cons_succ]
    refine wpAnyH_take (i := 18) (oi := { dst := some 23, op := Op.fieldAddr 40 (Operand.tmp 3) 2, type := 0, pos := _, after := _, guard := some (15, true) }) (v := undef) rfl (by kernel_rfl) (by kernel_rfl) (by kernel_rfl) (fun _ _ _ h => h) (Or.inr ⟨by rfl, rfl⟩) (by assumption) ?_
    simp only [Act.put, List.setIfInBounds_toArray, List.set_cons_zero, List.set_cons_succ]
    refine wpAnyH_take (i := 19) (oi := { dst := some 24, op := Op.load 3 (Operand.tmp 23), type := 3, pos := _, after := _, guard := some (15, true) }) (v := undef) rfl (by kernel_rfl) (by kernel_rfl) (by kernel_rfl) (fun _ _ _ h => h) (Or.inr ⟨by rfl, rfl⟩) (by assumption) ?_
    simp only [Act.put, List.setIfInBounds_toArray, List.set_cons_zero, List.set_cons_succ]
    refine wpAnyH_take (i := 20) (oi := { dst := some 25, op := Op.binOp BinOp.eql 3 (Operand.tmp 22) (Operand.tmp 24) 3, type := 4, pos := _, after := _, guard := some (15, true) }) (v := undef) rfl (by kernel_rfl) (by kernel_rfl) (by kernel_rfl) (fun _ _ _ h => h) (Or.inr ⟨by rfl, rfl⟩) (by assumption) ?_
    simp only [Act.put, List.setIfInBounds_toArray, List.set_cons_zero, List.set_cons_succ]
    refine wpAnyH_take (i := 21) (oi := { dst := some 26, op := Op.pick (Operand.tmp 20) (Operand.tmp 25) (Operand.const (Value.bool false)), type := 4, pos := _, after := _, guard := some (9, false) }) (v := undef) rfl (by kernel_rfl) (by kernel_rfl) (by kernel_rfl) (fun _ _ _ h => h) (Or.inr ⟨by rfl, rfl⟩) (by assumption) ?_
    simp only [Act.put, List.setIfInBounds_toArray, List.set_cons_zero, List.set_cons_succ]
    refine wpAnyH_take (i := 22) (oi := { dst := some 27, op := Op.pick (Operand.tmp 14) (Operand.const (Value.bool true)) (Operand.tmp 26), type := 4, pos := _, after := _, guard := some (5, true) }) (v := .bool true) rfl (by kernel_rfl) (by kernel_rfl) (by kernel_rfl) (fun _ _ _ h => h) (Or.inl ⟨by rfl, fun w' _ => ?_⟩) (by assumption) ?_
    · go_simp
    simp only [Act.put, List.setIfInBounds_toArray, List.set_cons_zero, List.set_cons_succ]
    refine wpAnyH_take (i := 23) (oi := { dst := some 28, op := Op.pick (Operand.tmp 10) (Operand.tmp 27) (Operand.const (Value.bool false)), type := 4, pos := _, after := _, guard := none }) (v := .bool true) rfl (by kernel_rfl) (by kernel_rfl) (by kernel_rfl) (fun _ _ _ h => h) (Or.inl ⟨by rfl, fun w' _ => ?_⟩) (by assumption) ?_
    · go_simp
    simp only [Act.put, List.setIfInBounds_toArray, List.set_cons_zero, List.set_cons_succ]
    refine wpAnyH_take (i := 24) (oi := { dst := some 4, op := Op.assign (Operand.tmp 28), type := 4, pos := _, after := _, guard := none }) (v := .bool true) rfl (by kernel_rfl) (by kernel_rfl) (by kernel_rfl) (fun _ _ _ h => h) (Or.inl ⟨by rfl, fun w' _ => ?_⟩) (by assumption) ?_
    · go_simp
    simp only [Act.put, List.setIfInBounds_toArray, List.set_cons_zero, List.set_cons_succ]
    refine wpAnyH_done (by kernel_rfl) ?_ _
    have HI := Lib.hid hi6.bel
    clear hi6 t0 t1 t2
    go_wp2_with fail
    go_ret
    exact ⟨rfl, HI.out⟩
  · have z0 : ((no : Int) == 0) = false := beq_eq_false_iff_ne.2 (by omega)
    have D15 := Lib.hid (fun (W : World) (h : SmIn09E w W S no a r e w.heap.size) => (reason_err h.env.env (h.er.is h0)).mono fun x w' hx => show x = Ending.returned (.int .i64 r) ∧ SmIn09E w w' S no a r e w.heap.size from ⟨hx.1, h.below hx.2⟩)
    have D16 := Lib.hid (fun (W : World) (h : SmIn09E w W S no a r e w.heap.size) => (at_err h.env.env (h.er.is h0)).mono fun x w' hx => show x = Ending.returned (.int .i64 a) ∧ SmIn09E w w' S no a r e w.heap.size from ⟨hx.1, h.below hx.2⟩)
    clear he hE hb0
    go_enter Tryz.func18, Tryz.ntmps18
    go_wp2_with fail
    go_region_held3 (fun W => W.cell? ⟨w.heap.size, 0, none⟩ = some (.int .i64 no) ∧ W.cell? ⟨w.heap.size, 1, none⟩ = some (.int .i64 r) ∧ W.cell? ⟨w.heap.size, 2, none⟩ = some (.int .i64 a))
      (first | assumption | (exact KT.out _ (by assumption)) | (exact KT.out _ (SmIn09E.drewN (by assumption) 1)))
      (first
      | (go_at_call 40; (with_reducible refine (D14.out _ ?_).mono ?_); (first | assumption | exact SmIn09E.drewN (by assumption) 1); rintro x w6 ⟨rfl, hi6⟩)
      | (go_at_call 44; (with_reducible refine (D15.out _ ?_).mono ?_); (first | assumption | exact SmIn09E.drewN (by assumption) 1); rintro x w7 ⟨rfl, hi7⟩)
      | (go_at_call 45; (with_reducible refine (D16.out _ ?_).mono ?_); (first | assumption | exact SmIn09E.drewN (by assumption) 1); rintro x w8 ⟨rfl, hi8⟩))
    have HI := Lib.hid hi8.bel
    clear hi6 hi7 hi8 t0 t1 t2
    go_wp2_with fail
    go_ret
    exact ⟨rfl, HI.out⟩
end Go.Proofs.YtinhecggmakbnaaGreatDoor
namespace Go.Proofs.YtinhecggmakbnaaGreatDoor
set_option maxRecDepth 100000
open Go.RowKit Go.Extern.Stop Go.Stop Go.Extern
theorem renc09 {w : World} {A : PkA} {p : Pk} (h : PkIn w w.heap.size A p) (hS : SmallP p.props) : Calls Tryz.prog 17 #[p.agg A] w (FrF w (enC p)) := by
  by_cases hE0 : (encR 2 p.props).no = 0
  · cases hb : p.present with
    | true => exact renc09_true h hS hb hE0
    | false => exact renc09_false h hS hb hE0
  · exact renc09_bad h hS hE0

set_option maxHeartbeats 8000000 in
theorem connackEncodes_walk (S : Nat → Addr) (p : Pk) (A : PkA) (w : World) (hE : EnvN w S) (h : PkArg w A p) :
    Calls Tryz.prog 4 #[p.agg A] w fun x w' => x = .returned (.bool true) ∧ Below w.heap.size w w' := by
  obtain ⟨z, hT, hz26, hz⟩ := tyP_ex
  obtain ⟨c, hc⟩ : ∃ c, c = p.cells A := ⟨_, rfl⟩
  rw [show p.agg A = .agg c from by rw [hc]; rfl]
  have HC := Lib.hid hc
  have HCS := Lib.hid (show c.size = z.size by rw [hc, hz26]; rfl)
  have HC26 := Lib.hid (show c.size = 26 by rw [hc]; rfl)
  have HT := Lib.hid hT
  have HE := Lib.hid hE
  have HA := Lib.hid h
  have HO := Lib.hid (Own.start [] w)
  clear hT hz26 hz hc h hE
  go_enter Tryz.func4, Tryz.ntmps4
  go_wp2_with (first | (refine wpo_box (t := 29) HO.out _ rfl rfl rfl ?_; clear HO; rintro k1 W1 hO; have HO := Lib.hid hO; clear hO; simp only [Act.put, List.setIfInBounds_toArray, List.set_cons_zero, List.set_cons_succ]) | (refine wpo_load HO.out 0 HT.out rfl HCS.out _ rfl rfl rfl ?_))
  have HFW := Lib.hid (few08 (w := W1) (A := A) (p := p) ⟨(HA.out.inn.below HO.out.bel).mono HO.out.size, HA.out.pl, HA.out.wl, HA.out.sl, HA.out.fl, HA.out.cl⟩)
  rw [show p.agg A = .agg c from by rw [HC.out]; rfl] at HFW
  refine HFW.out.mono ?_
  rintro x V1 ⟨b, rfl, hfk, hb⟩
  have HB := Lib.hid (HO.out.below hb)
  clear HO hb HFW
  have HO := HB
  clear HB
  cases b with
  | false =>
    clear hfk
    go_wp2_with fail
    refine (awake09 (HE.out.later HO.out.bel)).mono ?_
    rintro x V2 ⟨rfl, hb⟩
    have HB := Lib.hid (HO.out.below hb)
    clear HO hb
    have HO := HB
    clear HB
    go_wp2_with fail
    go_ret
    exact ⟨rfl, HO.out.bel⟩
  | true =>
    have HK := Lib.hid (hfk rfl)
    clear hfk
    have HSM := Lib.hid (smallP_of HK.out.pr.1 fun k hk => ⟨by have := (HK.out.pr.2 k hk).1; omega, by have := (HK.out.pr.2 k hk).2; omega⟩)
    have hen := enc09 (p := p) (A := A) (HE.out.env.later HO.out.bel) ((HA.out.inn.below HO.out.bel).mono HO.out.size) HSM.out
    rw [show p.agg A = .agg c from by rw [HC.out]; rfl] at hen
    have HEN := Lib.hid hen
    have HRN := Lib.hid (fun W (hb : Below w.heap.size w W) => renc09 (w := W) (p := p) (A := A) ((HA.out.inn.below hb).mono hb.size) HSM.out)
    rw [show p.agg A = .agg c from by rw [HC.out]; rfl] at HRN
    obtain ⟨⟨⟨en, er, ea⟩, f1, fs⟩, hf⟩ : ∃ f, f = enC p := ⟨_, rfl⟩
    rw [← hf] at HEN HRN
    clear hen hf
    go_wp2_with (refine wpo_load HO.out 0 HT.out rfl HCS.out _ rfl rfl rfl ?_)
    refine HEN.out.mono ?_
    rintro x V3 ⟨e3, rfl, he3, hb⟩
    have HB3 := Lib.hid (HO.out.below hb)
    have HK1 := Lib.hid (HB3.out.get 0 rfl)
    have HBW := Lib.hid HB3.out.bel
    have HER := Lib.hid he3
    clear HO HB3 hb he3 HEN
    have HO := Lib.hid (Own.start [] V3)
    simp only at HER
    go_upto_region 4 with (first | (refine wpo_alloc tyF HO.out rfl rfl ?_; clear HO; rintro k3 W4 hO; have HO := Lib.hid hO; clear hO; simp only [Act.put, List.setIfInBounds_toArray, List.set_cons_zero, List.set_cons_succ]) | (refine wpo_store (k := k3) HO.out 0 tyF rfl _ _ rfl rfl rfl rfl rfl rfl rfl ?_; clear HO; rintro W5 hO; have HO := Lib.hid hO; clear hO; simp only [Act.put]))
    have HRN2 := Lib.hid (HRN.out W5 (HBW.out.trans (HO.out.bel.mono HBW.out.size)))
    clear HRN
    go_wp2_with (refine wpk_load (HO.out.eld HK1.out List.not_mem_nil) HC26.out _ rfl rfl rfl ?_)
    refine HRN2.out.mono ?_
    rintro x V6 ⟨rfl, hb⟩
    have HB := Lib.hid (HO.out.below hb)
    clear HO hb HRN2
    have HO := HB
    clear HB
    simp only [fltV]
    go_upto_region 5 with (first | (refine wpo_alloc tyF HO.out rfl rfl ?_; clear HO; rintro k5 W7 hO; have HO := Lib.hid hO; clear hO; simp only [Act.put, List.setIfInBounds_toArray, List.set_cons_zero, List.set_cons_succ]) | (refine wpo_alloc tyX HO.out rfl rfl ?_; clear HO; rintro k6 W8 hO; have HO := Lib.hid hO; clear hO; simp only [Act.put, List.setIfInBounds_toArray, List.set_cons_zero, List.set_cons_succ]) | (refine wpo_store (k := k5) HO.out 1 tyF rfl _ _ rfl rfl rfl rfl rfl rfl rfl ?_; clear HO; rintro W9 hO; have HO := Lib.hid hO; clear hO; simp only [Act.put]) | (refine wpo_store (k := k6) HO.out 0 tyX rfl _ _ rfl rfl rfl rfl rfl rfl rfl ?_; clear HO; rintro W10 hO; have HO := Lib.hid hO; clear hO; simp only [Act.put]))
    have x0 : W10.cell? ⟨k6, 0, none⟩ = some (.int .i64 (en : Int)) := (HO.out.get 0 rfl).cell 0
    have x1 : W10.cell? ⟨k6, 1, none⟩ = some (.int .i64 er) := (HO.out.get 0 rfl).cell 1
    have x2 : W10.cell? ⟨k6, 2, none⟩ = some (.int .i64 (ea : Int)) := (HO.out.get 0 rfl).cell 2
    have HSA := Lib.hid (same09E S en ea er e3 W10 ((HE.out.later HBW.out).later HO.out.bel) (HER.out.later HO.out.bel))
    go_wp2_with (first | (refine wpo_load HO.out 1 tyF rfl rfl _ rfl rfl rfl ?_) | (refine wpo_load HO.out 2 tyF rfl rfl _ rfl rfl rfl ?_))
    refine HSA.out.mono ?_
    rintro x V11 ⟨rfl, hb⟩
    clear x0 x1 x2
    have HB := Lib.hid (HO.out.below hb)
    clear HO hb HSA
    have HO := HB
    clear HB
    go_wp2_with fail
    refine (awake09 (HE.out.later (HBW.out.trans (HO.out.bel.mono HBW.out.size)))).mono ?_
    rintro x V12 ⟨rfl, hb⟩
    have HB := Lib.hid (HO.out.below hb)
    clear HO hb
    have HO := HB
    clear HB
    go_wp2_with fail
    go_ret
    exact ⟨rfl, HBW.out.trans (HO.out.bel.mono HBW.out.size)⟩
end Go.Proofs.YtinhecggmakbnaaGreatDoor
