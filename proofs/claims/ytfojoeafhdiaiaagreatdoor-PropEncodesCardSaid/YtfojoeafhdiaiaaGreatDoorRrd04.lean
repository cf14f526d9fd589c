/- What is proved here: what a Reader of package field reads: its place, what is left, its error; so many bytes; numbers. Conditions: the reader is there; what the rows list of the package's variables. -/
import Derived.Test.YtfojoeafhdiaiaaGreatDoorRob04
import Derived.Test.YtfojoeafhdiaiaaGreatDoorWnu04
import Derived.Test.YtfojoeafhdiaiaaGreatDoorRegT
namespace Go.Proofs.YtfojoeafhdiaiaaGreatDoor
set_option maxRecDepth 100000
open Go.RowKit Go.Extern.Stop Go.Stop Go.Extern
theorem roll8 (n c : Nat) (hn : n < 1000000000000) (hc : c < 256) : bits .or .i64 ((n : Int) * 256) (c : Int) = ((n * 256 + c : Nat) : Int) := by
  have e2 : (n : Int) * 256 = ((n * 256 : Nat) : Int) := by omega
  rw [e2, or_i64_nat _ _ (by omega) (by omega)]
  have h := Nat.two_pow_add_eq_or_of_lt (i := 8) (b := c) (by omega) n
  have e3 : n * 256 ||| c = n * 256 + c := by
    rw [show n * 256 = 2 ^ 8 * n by omega]
    exact h.symm
  rw [e3]
section
variable {w w' : World} {S : Nat → Addr} {B g : Nat} {s : ByteArray} {R : RV}
theorem rended_no (h : RObj w S g s R) (h0 : R.no = 0) : Calls Tryz.prog 68 #[.pointer (some ⟨g, 0, none⟩)] w fun x w' => x = .returned (.bool false) ∧ w = w' := by
  have c1 : w.cell? ⟨g, 2, none⟩ = some .nilIface := (h.nil_err h0).cell 2
  clear h
  go_enter Tryz.func68, Tryz.ntmps68
  go_wp2
  go_ret
  exact ⟨rfl, rfl⟩
theorem rended_yes (h : RObj w S g s R) (h0 : R.no ≠ 0) : Calls Tryz.prog 68 #[.pointer (some ⟨g, 0, none⟩)] w fun x w' => x = .returned (.bool true) ∧ w = w' := by
  obtain ⟨t, u, hb, _⟩ := h.has_err h0
  have c1 : w.cell? ⟨g, 2, none⟩ = some (.iface t u) := hb.cell 2
  clear h hb h0
  go_enter Tryz.func68, Tryz.ntmps68
  go_wp2
  go_ret
  exact ⟨rfl, rfl⟩
theorem rat_any (h : RObj w S g s R) : Calls Tryz.prog 42 #[.pointer (some ⟨g, 0, none⟩)] w fun x w' => x = .returned (.int .i64 R.p) ∧ w = w' := by
  obtain ⟨e, hb, _⟩ := h.blk
  have c1 : w.cell? ⟨g, 1, none⟩ = some (.int .i64 R.p) := hb.cell 1
  clear h hb
  go_enter Tryz.func42, Tryz.ntmps42
  go_wp2
  go_ret
  exact ⟨rfl, rfl⟩
theorem rerr_any (h : RObj w S g s R) : Calls Tryz.prog 44 #[.pointer (some ⟨g, 0, none⟩)] w fun x w' => ∃ e, x = .returned e ∧ ErrOf w S 129 R.no R.ea e ∧ w = w' := by
  obtain ⟨e, hb, he⟩ := h.blk
  have c1 : w.cell? ⟨g, 2, none⟩ = some e := hb.cell 2
  have HE := Lib.hid he
  clear h hb he
  go_enter Tryz.func44, Tryz.ntmps44
  go_wp2
  go_ret
  exact ⟨_, rfl, HE.out, rfl⟩
theorem rleft_any (h : RObj w S g s R) (hs : s.size ≤ 1000000) : Calls Tryz.prog 45 #[.pointer (some ⟨g, 0, none⟩)] w fun x w' => x = .returned (.int .i64 ((s.size - R.p : Nat) : Int)) ∧ Below w.heap.size w w' := by
  obtain ⟨e, hb, he⟩ := h.blk
  have hp := h.le
  have c0 : w.cell? ⟨g, 0, none⟩ = some (.string s) := hb.cell 0
  have c1 : w.cell? ⟨g, 1, none⟩ = some (.int .i64 R.p) := hb.cell 1
  have e1 : ((s.size - R.p : Nat) : Int) = (s.size : Int) - (R.p : Int) := by omega
  rw [e1]
  clear h hb he e1
  generalize R.p = p at *
  go_enter Tryz.func45, Tryz.ntmps45
  go_wp2
  go_quiet (fail)
  go_wp2
  go_ret
  exact ⟨rfl, below_drewN (Below.refl _ _) _⟩
/-- What a method of a reader says. -/
def TSays (w : World) (S : Nat → Addr) (g : Nat) (s : ByteArray) (r : Value) (R' : RV) (x : Ending) (w' : World) : Prop := x = .returned r ∧ RNext w w' S g s R'
theorem TSays.pre {w1 : World} {r : Value} {R' : RV} {x : Ending} (h : TSays w1 S g s r R' x w') (hb : Below w.heap.size w w1) : TSays w S g s r R' x w' := ⟨h.1, h.2.pre hb⟩
/-- The world of a reader's act. -/
structure TIn (w W : World) (S : Nat → Addr) (g : Nat) (s : ByteArray) (R : RV) : Prop where
  obj : RObj W S g s R
  env : Env W S
  bel : Below w.heap.size w W
theorem TIn.below {W W' : World} (h : TIn w W S g s R) (hb : Below W.heap.size W W') : TIn w W' S g s R := ⟨h.obj.below hb, h.env.later hb, h.bel.trans (hb.mono h.bel.size)⟩
theorem TIn.drewN {W : World} (h : TIn w W S g s R) (d : Nat) : TIn w (W.drewN d) S g s R := h.below (below_drewN (Below.refl _ _) d)
theorem TIn.byteCell {W : World} (h : TIn w W S g s R) : W.cell? ⟨g, 0, none⟩ = some (.string s) := by obtain ⟨e, hb, _⟩ := h.obj.blk; exact hb.cell 0
theorem TIn.errCell {W : World} (h : TIn w W S g s R) : (∃ e, W.cell? ⟨g, 2, none⟩ = some e) ∧ W.frozen? ⟨g, 2, none⟩ = false := by obtain ⟨e, hb, _⟩ := h.obj.blk; exact ⟨⟨e, hb.cell 2⟩, hb.frozen 2⟩
theorem rtake_stuck (h : RObj w S g s R) (h0 : R.no ≠ 0) (n : Nat) :
    Calls Tryz.prog 72 #[.pointer (some ⟨g, 0, none⟩), .int .i64 n] w (TSays w S g s (.string ⟨#[]⟩) R) := by
  have HE := Lib.hid (rended_yes h h0)
  have HS := Lib.hid (h.step (Below.refl _ _))
  clear h h0
  go_enter Tryz.func72, Tryz.ntmps72
  go_wp2_with fail
  refine HE.out.mono ?_
  rintro x w1 ⟨rfl, rfl⟩
  go_wp2
  go_ret
  exact ⟨rfl, HS.out⟩
theorem rtake_ok (h : RObj w S g s R) (h0 : R.no = 0) (hs : s.size ≤ 1000000) (n : Nat) (hn : R.p + n ≤ s.size) :
    Calls Tryz.prog 72 #[.pointer (some ⟨g, 0, none⟩), .int .i64 n] w (TSays w S g s (.string (s.extract R.p (R.p + n))) ⟨R.p + n, R.no, R.ea⟩) := by
  have HE := Lib.hid (rended_no h h0)
  have HL := Lib.hid (rleft_any h hs)
  have H := Lib.hid h
  obtain ⟨p, no, ea⟩ := R
  simp only at *
  have hge : n ≤ s.size - p := by omega
  clear h
  go_enter Tryz.func72, Tryz.ntmps72
  go_wp2_with fail
  refine HE.out.mono ?_
  rintro x w1 ⟨rfl, rfl⟩
  go_wp2_with fail
  refine HL.out.mono ?_
  rintro x w2 ⟨rfl, hb⟩
  have h2 := H.out.below hb
  have HF := Lib.hid (fun d => (h2.below (below_drewN (Below.refl _ _) d)).moved (p := p + n) hn)
  obtain ⟨e, hb2, _⟩ := h2.blk
  have c0 : w2.cell? ⟨g, 0, none⟩ = some (.string s) := hb2.cell 0
  have c1 : w2.cell? ⟨g, 1, none⟩ = some (.int .i64 p) := hb2.cell 1
  have c2 : w2.frozen? ⟨g, 1, none⟩ = false := hb2.frozen 1
  have HB := Lib.hid hb
  clear h2 hb2 hb
  go_wp2_with fail
  have hpn := hn
  have q1 : IntKind.i64.wrap ((p : Int) + (n : Int)) = (p : Int) + (n : Int) := IntWalk.i64_in _ (by omega)
  go_quiet (fail)
  go_wp2
  go_ret
  exact ⟨rfl, ((HF.out _).pre (below_drewN (Below.refl _ _) _)).pre HB.out⟩
theorem rtake_short (hE : Env w S) (h : RObj w S g s R) (h0 : R.no = 0) (hs : s.size ≤ 1000000) (n : Nat) (hn : s.size < R.p + n) :
    Calls Tryz.prog 72 #[.pointer (some ⟨g, 0, none⟩), .int .i64 n] w (TSays w S g s (.string ⟨#[]⟩) ⟨R.p, 1, s.size⟩) := by
  have HE := Lib.hid (rended_no h h0)
  have HL := Lib.hid (rleft_any h hs)
  have H := Lib.hid h
  have HW := Lib.hid hE
  obtain ⟨p, no, ea⟩ := R
  simp only at *
  have hge : s.size - p < n := by have := h.le; simp only at this; omega
  clear h hE
  go_enter Tryz.func72, Tryz.ntmps72
  go_wp2_with fail
  refine HE.out.mono ?_
  rintro x w1 ⟨rfl, rfl⟩
  go_wp2_with fail
  refine HL.out.mono ?_
  rintro x w2 ⟨rfl, hb⟩
  have h2 := H.out.below hb
  have hi0 : TIn w w2 S g s ⟨p, no, ea⟩ := ⟨h2, HW.out.later hb, hb⟩
  have KT := Lib.hid (fun (W1 : World) (h : TIn w W1 S g s ⟨p, no, ea⟩) => show W1.cell? ⟨g, 0, none⟩ = some (.string s) ∧ W1.cell? ⟨0, 0, none⟩ = some (.iface 149 (.pointer (some (S 0)))) from ⟨h.byteCell, h.env.kShort⟩)
  clear h2 hb
  go_wp2_with fail
  obtain ⟨t0, t1⟩ := KT.out _ hi0
  refine wp_region_T (fun W => W.cell? ⟨g, 0, none⟩ = some (.string s) ∧ W.cell? ⟨0, 0, none⟩ = some (.iface 149 (.pointer (some (S 0))))) 10 (by kernel_rfl) ?_ (fun hHeld => ?_)
  · (first | assumption | exact KT.out _ (by assumption) | exact KT.out _ (TIn.drewN (by assumption) 1))
  refine wpAnyT_take (i := 0) (oi := { dst := some 12, op := Op.move (Operand.tmp 0), type := 48, pos := _, after := _, guard := none }) (v := ?_) rfl (by kernel_rfl) (by kernel_rfl) (by kernel_rfl) (by kernel_rfl) (fun _ _ _ h => h) (Or.inl ⟨by rfl, ?_⟩) (by assumption) ?_
  rotate_left
  · (intro w hSw; (try dsimp only at hSw); go_simp; (try with_reducible rfl))
  (try simp only [Act.put, List.setIfInBounds_toArray, List.set_cons_zero, List.set_cons_succ])
  refine wpAnyT_take (i := 1) (oi := { dst := some 13, op := Op.move (Operand.tmp 0), type := 48, pos := _, after := _, guard := none }) (v := ?_) rfl (by kernel_rfl) (by kernel_rfl) (by kernel_rfl) (by kernel_rfl) (fun _ _ _ h => h) (Or.inl ⟨by rfl, ?_⟩) (by assumption) ?_
  rotate_left
  · (intro w hSw; (try dsimp only at hSw); go_simp; (try with_reducible rfl))
  (try simp only [Act.put, List.setIfInBounds_toArray, List.set_cons_zero, List.set_cons_succ])
  refine wpAnyT_take (i := 2) (oi := { dst := some 14, op := Op.nilCheck (Operand.tmp 13), type := 0, pos := _, after := _, guard := none }) (v := ?_) rfl (by kernel_rfl) (by kernel_rfl) (by kernel_rfl) (by kernel_rfl) (fun _ _ _ h => h) (Or.inl ⟨by rfl, ?_⟩) (by assumption) ?_
  rotate_left
  · (intro w hSw; (try dsimp only at hSw); go_simp; (try with_reducible rfl))
  (try simp only [Act.put, List.setIfInBounds_toArray, List.set_cons_zero, List.set_cons_succ])
  refine wpAnyT_take (i := 3) (oi := { dst := some 15, op := Op.fieldAddr 77 (Operand.tmp 14) 0, type := 0, pos := _, after := _, guard := none }) (v := ?_) rfl (by kernel_rfl) (by kernel_rfl) (by kernel_rfl) (by kernel_rfl) (fun _ _ _ h => h) (Or.inl ⟨by rfl, ?_⟩) (by assumption) ?_
  rotate_left
  · (intro w hSw; (try dsimp only at hSw); go_simp; (try with_reducible rfl))
  (try simp only [Act.put, List.setIfInBounds_toArray, List.set_cons_zero, List.set_cons_succ])
  refine wpAnyT_take (i := 4) (oi := { dst := some 16, op := Op.load 9 (Operand.tmp 15), type := 9, pos := _, after := _, guard := none }) (v := ?_) rfl (by kernel_rfl) (by kernel_rfl) (by kernel_rfl) (by kernel_rfl) (fun _ _ _ h => h) (Or.inl ⟨by rfl, ?_⟩) (by assumption) ?_
  rotate_left
  · (intro w hSw; (try dsimp only at hSw); go_simp; (try with_reducible rfl))
  (try simp only [Act.put, List.setIfInBounds_toArray, List.set_cons_zero, List.set_cons_succ])
  refine wpAnyT_take (i := 5) (oi := { dst := some 17, op := Op.call { callee := Callee.builtin Builtin.len, args := #[Operand.tmp 16], argTypes := #[9] }, type := 3, pos := _, after := _, guard := none }) (v := ?_) rfl (by kernel_rfl) (by kernel_rfl) (by kernel_rfl) (by kernel_rfl) (fun _ _ _ h => h) (Or.inl ⟨by rfl, ?_⟩) (by assumption) ?_
  rotate_left
  · (intro w hSw; (try dsimp only at hSw); go_simp; (try with_reducible rfl))
  (try simp only [Act.put, List.setIfInBounds_toArray, List.set_cons_zero, List.set_cons_succ])
  refine wpAnyT_take (i := 6) (oi := { dst := some 18, op := Op.load 36 (Operand.global 0), type := 36, pos := _, after := _, guard := none }) (v := ?_) rfl (by kernel_rfl) (by kernel_rfl) (by kernel_rfl) (by kernel_rfl) (fun _ _ _ h => h) (Or.inl ⟨by rfl, ?_⟩) (by assumption) ?_
  rotate_left
  · (intro w hSw; (try dsimp only at hSw); go_simp; (try with_reducible rfl))
  (try simp only [Act.put, List.setIfInBounds_toArray, List.set_cons_zero, List.set_cons_succ])
  refine wpAnyT_one (i := 7) (o := { dst := some 19, op := Op.call { callee := Callee.value (Operand.func 71), args := #[Operand.tmp 17, Operand.tmp 18], argTypes := #[3, 36] }, type := 36, pos := _, after := _, guard := none }) (by kernel_rfl) rfl (fun K hK => ?_)
  go_simp
  refine ((fwrong_any S 0 s.size _).mono fun x w' hx => show ∃ e, x = Ending.returned e ∧ ErrIs w' S 0 129 s.size e ∧ TIn w w' S g s ⟨p, no, ea⟩ from ⟨hx.choose, hx.choose_spec.1, hx.choose_spec.2.1, (TIn.drewN (by assumption) 1).below hx.choose_spec.2.2⟩).mono ?_
  rintro x w6 ⟨e6, rfl, he6, hi6⟩
  obtain ⟨t6, u6, rfl⟩ := he6.iface
  go_wp2_with fail
  refine hK.out _ _ (fun _ => ?_) (fun hH1 => ?_)
  · (first | assumption | exact KT.out _ (by assumption) | exact KT.out _ (TIn.drewN (by assumption) 1))
  have hHeld1 := hH1 (by decide)
  clear hK K hH1
  (try simp only [Act.put, List.setIfInBounds_toArray, List.set_cons_zero, List.set_cons_succ])
  refine wpAnyT_one (i := 8) (o := { dst := some 20, op := Op.nilCheck (Operand.tmp 12), type := 0, pos := _, after := _, guard := none }) (by kernel_rfl) rfl (fun K hK => ?_)
  go_simp
  refine hK.out _ _ (fun _ => ?_) (fun hH2 => ?_)
  · (first | assumption | exact KT.out _ (by assumption) | exact KT.out _ (TIn.drewN (by assumption) 1))
  have hHeld2 := hH2 (by decide)
  clear hK K hH2
  (try simp only [Act.put, List.setIfInBounds_toArray, List.set_cons_zero, List.set_cons_succ])
  refine wpAnyT_one (i := 9) (o := { dst := some 21, op := Op.fieldAddr 77 (Operand.tmp 20) 2, type := 0, pos := _, after := _, guard := none }) (by kernel_rfl) rfl (fun K hK => ?_)
  obtain ⟨⟨_, y0⟩, y1⟩ := hi6.errCell
  go_simp
  refine hK.out _ _ (fun _ => ?_) (fun hH3 => ?_)
  · (first | assumption | exact KT.out _ (by assumption) | exact KT.out _ (TIn.drewN (by assumption) 1))
  have hHeld3 := hH3 (by decide)
  clear hK K hH3
  (try simp only [Act.put, List.setIfInBounds_toArray, List.set_cons_zero, List.set_cons_succ])
  refine wpAnyT_one (i := 10) (o := { dst := none, op := Op.store 36 (Operand.tmp 21) (Operand.tmp 19), type := 0, pos := _, after := _, guard := none }) (by kernel_rfl) rfl (fun K hK => ?_)
  go_simp
  refine hK.out _ _ (fun h => absurd rfl h) (fun _ => ?_)
  clear hK K
  (try simp only [Act.put, List.setIfInBounds_toArray, List.set_cons_zero, List.set_cons_succ])
  refine wpAnyT_done (by kernel_rfl) ?_ _
  have HN := Lib.hid (hi6.obj.failed (ErrOf.some (no := 1) (by omega) (by omega) he6))
  go_wp2_with fail
  go_ret
  exact ⟨rfl, HN.out.pre hi6.bel⟩
end
end Go.Proofs.YtfojoeafhdiaiaaGreatDoor
