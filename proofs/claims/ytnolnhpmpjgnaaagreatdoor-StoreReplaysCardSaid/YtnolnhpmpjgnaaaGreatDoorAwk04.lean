/- What is proved here: what a Reader of package field reads: its place, what is left, its error; so many bytes; numbers. Conditions: the reader is there; what the rows list of the package's variables. What is proved here: what a Reader of package field reads: numbers, variable byte integers, bytes, texts; and whether it is done. Conditions: the reader is there; what the rows list of the package's variables. What is proved here: what a Reader of package field reads: bytes and texts with their length ahead; whether it is done; a new one. Conditions: the reader is there; what the rows list of the package's variables stays, while the reader changes. What is proved here: the texts that a Reader of package field reads. Conditions: the reader is there; what the rows list of the package's variables stays, while the reader changes. What is proved here: what the statements of layer 4 hold awake. Condition: what the rows list of the package's variables. -/
import Derived.Test.YtnolnhpmpjgnaaaGreatDoorRob04
import Derived.Test.YtnolnhpmpjgnaaaGreatDoorWnu04
import Derived.Test.YtnolnhpmpjgnaaaGreatDoorRegT
import Derived.Test.YtnolnhpmpjgnaaaGreatDoorWlw04
namespace Go.Proofs.YtnolnhpmpjgnaaaGreatDoor
set_option maxRecDepth 100000
open Go.RowKit Go.Extern.Stop Go.Stop Go.Extern
theorem roll8 (n c : Nat) (hn : n < 1000000000000) (hc : c < 256) : bits .or .i64 ((n : Int) * 256) (c : Int) = ((n * 256 + c : Nat) : Int) := by
  have e2 : (n : Int) * 256 = ((n * 256 : Nat) : Int) := by omega
  rw [e2, or_i64_nat _ _ (by omega) (by omega)]
  have h := Nat.two_pow_add_eq_or_of_lt (i := 8) (b := c) (by omega) n
  have e3 : n * 256 ||| c = n * 256 + c := by
    rw [show n * 256 = 2 ^ 8 * n by omega]
    exact h.symm
  rw [e3]
section
variable {w w' : World} {S : Nat → Addr} {B g : Nat} {s : ByteArray} {R : RV}
theorem rended_no (h : RObj w S g s R) (h0 : R.no = 0) : Calls Tryz.prog 66 #[.pointer (some ⟨g, 0, none⟩)] w fun x w' => x = .returned (.bool false) ∧ w = w' := by
  have c1 : w.cell? ⟨g, 2, none⟩ = some .nilIface := (h.nil_err h0).cell 2
  clear h
  go_enter Tryz.func66, Tryz.ntmps66
  go_wp2
  go_ret
  exact ⟨rfl, rfl⟩
theorem rended_yes (h : RObj w S g s R) (h0 : R.no ≠ 0) : Calls Tryz.prog 66 #[.pointer (some ⟨g, 0, none⟩)] w fun x w' => x = .returned (.bool true) ∧ w = w' := by
  obtain ⟨t, u, hb, _⟩ := h.has_err h0
  have c1 : w.cell? ⟨g, 2, none⟩ = some (.iface t u) := hb.cell 2
  clear h hb h0
  go_enter Tryz.func66, Tryz.ntmps66
  go_wp2
  go_ret
  exact ⟨rfl, rfl⟩
theorem rat_any (h : RObj w S g s R) : Calls Tryz.prog 44 #[.pointer (some ⟨g, 0, none⟩)] w fun x w' => x = .returned (.int .i64 R.p) ∧ w = w' := by
  obtain ⟨e, hb, _⟩ := h.blk
  have c1 : w.cell? ⟨g, 1, none⟩ = some (.int .i64 R.p) := hb.cell 1
  clear h hb
  go_enter Tryz.func44, Tryz.ntmps44
  go_wp2
  go_ret
  exact ⟨rfl, rfl⟩
theorem rerr_any (h : RObj w S g s R) : Calls Tryz.prog 47 #[.pointer (some ⟨g, 0, none⟩)] w fun x w' => ∃ e, x = .returned e ∧ ErrOf w S 129 R.no R.ea e ∧ w = w' := by
  obtain ⟨e, hb, he⟩ := h.blk
  have c1 : w.cell? ⟨g, 2, none⟩ = some e := hb.cell 2
  have HE := Lib.hid he
  clear h hb he
  go_enter Tryz.func47, Tryz.ntmps47
  go_wp2
  go_ret
  exact ⟨_, rfl, HE.out, rfl⟩
theorem rleft_any (h : RObj w S g s R) (hs : s.size ≤ 1000000) : Calls Tryz.prog 49 #[.pointer (some ⟨g, 0, none⟩)] w fun x w' => x = .returned (.int .i64 ((s.size - R.p : Nat) : Int)) ∧ Below w.heap.size w w' := by
  obtain ⟨e, hb, he⟩ := h.blk
  have hp := h.le
  have c0 : w.cell? ⟨g, 0, none⟩ = some (.string s) := hb.cell 0
  have c1 : w.cell? ⟨g, 1, none⟩ = some (.int .i64 R.p) := hb.cell 1
  have e1 : ((s.size - R.p : Nat) : Int) = (s.size : Int) - (R.p : Int) := by omega
  rw [e1]
  clear h hb he e1
  generalize R.p = p at *
  go_enter Tryz.func49, Tryz.ntmps49
  go_wp2
  go_quiet (fail)
  go_wp2
  go_ret
  exact ⟨rfl, below_drewN (Below.refl _ _) _⟩
/-- What a method of a reader says. -/
def TSays (w : World) (S : Nat → Addr) (g : Nat) (s : ByteArray) (r : Value) (R' : RV) (x : Ending) (w' : World) : Prop := x = .returned r ∧ RNext w w' S g s R'
theorem TSays.pre {w1 : World} {r : Value} {R' : RV} {x : Ending} (h : TSays w1 S g s r R' x w') (hb : Below w.heap.size w w1) : TSays w S g s r R' x w' := ⟨h.1, h.2.pre hb⟩
/-- The world of a reader's act. -/
structure TIn (w W : World) (S : Nat → Addr) (g : Nat) (s : ByteArray) (R : RV) : Prop where
  obj : RObj W S g s R
  env : Env W S
  bel : Below w.heap.size w W
theorem TIn.below {W W' : World} (h : TIn w W S g s R) (hb : Below W.heap.size W W') : TIn w W' S g s R := ⟨h.obj.below hb, h.env.later hb, h.bel.trans (hb.mono h.bel.size)⟩
theorem TIn.drewN {W : World} (h : TIn w W S g s R) (d : Nat) : TIn w (W.drewN d) S g s R := h.below (below_drewN (Below.refl _ _) d)
theorem TIn.byteCell {W : World} (h : TIn w W S g s R) : W.cell? ⟨g, 0, none⟩ = some (.string s) := by obtain ⟨e, hb, _⟩ := h.obj.blk; exact hb.cell 0
theorem TIn.errCell {W : World} (h : TIn w W S g s R) : (∃ e, W.cell? ⟨g, 2, none⟩ = some e) ∧ W.frozen? ⟨g, 2, none⟩ = false := by obtain ⟨e, hb, _⟩ := h.obj.blk; exact ⟨⟨e, hb.cell 2⟩, hb.frozen 2⟩
theorem rtake_stuck (h : RObj w S g s R) (h0 : R.no ≠ 0) (n : Nat) :
    Calls Tryz.prog 45 #[.pointer (some ⟨g, 0, none⟩), .int .i64 n] w (TSays w S g s (.string ⟨#[]⟩) R) := by
  have HE := Lib.hid (rended_yes h h0)
  have HS := Lib.hid (h.step (Below.refl _ _))
  clear h h0
  go_enter Tryz.func45, Tryz.ntmps45
  go_wp2_with fail
  refine HE.out.mono ?_
  rintro x w1 ⟨rfl, rfl⟩
  go_wp2
  go_ret
  exact ⟨rfl, HS.out⟩
theorem rtake_ok (h : RObj w S g s R) (h0 : R.no = 0) (hs : s.size ≤ 1000000) (n : Nat) (hn : R.p + n ≤ s.size) :
    Calls Tryz.prog 45 #[.pointer (some ⟨g, 0, none⟩), .int .i64 n] w (TSays w S g s (.string (s.extract R.p (R.p + n))) ⟨R.p + n, R.no, R.ea⟩) := by
  have HE := Lib.hid (rended_no h h0)
  have HL := Lib.hid (rleft_any h hs)
  have H := Lib.hid h
  obtain ⟨p, no, ea⟩ := R
  simp only at *
  have hge : n ≤ s.size - p := by omega
  clear h
  go_enter Tryz.func45, Tryz.ntmps45
  go_wp2_with fail
  refine HE.out.mono ?_
  rintro x w1 ⟨rfl, rfl⟩
  go_wp2_with fail
  refine HL.out.mono ?_
  rintro x w2 ⟨rfl, hb⟩
  have h2 := H.out.below hb
  have HF := Lib.hid (fun d => (h2.below (below_drewN (Below.refl _ _) d)).moved (p := p + n) hn)
  obtain ⟨e, hb2, _⟩ := h2.blk
  have c0 : w2.cell? ⟨g, 0, none⟩ = some (.string s) := hb2.cell 0
  have c1 : w2.cell? ⟨g, 1, none⟩ = some (.int .i64 p) := hb2.cell 1
  have c2 : w2.frozen? ⟨g, 1, none⟩ = false := hb2.frozen 1
  have HB := Lib.hid hb
  clear h2 hb2 hb
  go_wp2_with fail
  have hpn := hn
  have q1 : IntKind.i64.wrap ((p : Int) + (n : Int)) = (p : Int) + (n : Int) := IntWalk.i64_in _ (by omega)
  go_quiet (fail)
  go_wp2
  go_ret
  exact ⟨rfl, ((HF.out _).pre (below_drewN (Below.refl _ _) _)).pre HB.out⟩
theorem rtake_short (hE : Env w S) (h : RObj w S g s R) (h0 : R.no = 0) (hs : s.size ≤ 1000000) (n : Nat) (hn : s.size < R.p + n) :
    Calls Tryz.prog 45 #[.pointer (some ⟨g, 0, none⟩), .int .i64 n] w (TSays w S g s (.string ⟨#[]⟩) ⟨R.p, 1, s.size⟩) := by
  have HE := Lib.hid (rended_no h h0)
  have HL := Lib.hid (rleft_any h hs)
  have H := Lib.hid h
  have HW := Lib.hid hE
  obtain ⟨p, no, ea⟩ := R
  simp only at *
  have hge : s.size - p < n := by have := h.le; simp only at this; omega
  clear h hE
  go_enter Tryz.func45, Tryz.ntmps45
  go_wp2_with fail
  refine HE.out.mono ?_
  rintro x w1 ⟨rfl, rfl⟩
  go_wp2_with fail
  refine HL.out.mono ?_
  rintro x w2 ⟨rfl, hb⟩
  have h2 := H.out.below hb
  have hi0 : TIn w w2 S g s ⟨p, no, ea⟩ := ⟨h2, HW.out.later hb, hb⟩
  have KT := Lib.hid (fun (W1 : World) (h : TIn w W1 S g s ⟨p, no, ea⟩) => show W1.cell? ⟨g, 0, none⟩ = some (.string s) ∧ W1.cell? ⟨2, 0, none⟩ = some (.iface 188 (.pointer (some (S 0)))) from ⟨h.byteCell, h.env.kShort⟩)
  clear h2 hb
  go_wp2_with fail
  obtain ⟨t0, t1⟩ := KT.out _ hi0
  refine wp_region_T (fun W => W.cell? ⟨g, 0, none⟩ = some (.string s) ∧ W.cell? ⟨2, 0, none⟩ = some (.iface 188 (.pointer (some (S 0))))) 10 (by kernel_rfl) ?_ (fun hHeld => ?_)
  · (first | assumption | exact KT.out _ (by assumption) | exact KT.out _ (TIn.drewN (by assumption) 1))
  refine wpAnyT_take (i := 0) (oi := { dst := some 12, op := Op.move (Operand.tmp 0), type := 53, pos := _, after := _, guard := none }) (v := ?_) rfl (by kernel_rfl) (by kernel_rfl) (by kernel_rfl) (by kernel_rfl) (fun _ _ _ h => h) (Or.inl ⟨by rfl, ?_⟩) (by assumption) ?_
  rotate_left
  · (intro w hSw; (try dsimp only at hSw); go_simp; (try with_reducible rfl))
  (try simp only [Act.put, List.setIfInBounds_toArray, List.set_cons_zero, List.set_cons_succ])
  refine wpAnyT_take (i := 1) (oi := { dst := some 13, op := Op.move (Operand.tmp 0), type := 53, pos := _, after := _, guard := none }) (v := ?_) rfl (by kernel_rfl) (by kernel_rfl) (by kernel_rfl) (by kernel_rfl) (fun _ _ _ h => h) (Or.inl ⟨by rfl, ?_⟩) (by assumption) ?_
  rotate_left
  · (intro w hSw; (try dsimp only at hSw); go_simp; (try with_reducible rfl))
  (try simp only [Act.put, List.setIfInBounds_toArray, List.set_cons_zero, List.set_cons_succ])
  refine wpAnyT_take (i := 2) (oi := { dst := some 14, op := Op.nilCheck (Operand.tmp 13), type := 0, pos := _, after := _, guard := none }) (v := ?_) rfl (by kernel_rfl) (by kernel_rfl) (by kernel_rfl) (by kernel_rfl) (fun _ _ _ h => h) (Or.inl ⟨by rfl, ?_⟩) (by assumption) ?_
  rotate_left
  · (intro w hSw; (try dsimp only at hSw); go_simp; (try with_reducible rfl))
  (try simp only [Act.put, List.setIfInBounds_toArray, List.set_cons_zero, List.set_cons_succ])
  refine wpAnyT_take (i := 3) (oi := { dst := some 15, op := Op.fieldAddr 87 (Operand.tmp 14) 0, type := 0, pos := _, after := _, guard := none }) (v := ?_) rfl (by kernel_rfl) (by kernel_rfl) (by kernel_rfl) (by kernel_rfl) (fun _ _ _ h => h) (Or.inl ⟨by rfl, ?_⟩) (by assumption) ?_
  rotate_left
  · (intro w hSw; (try dsimp only at hSw); go_simp; (try with_reducible rfl))
  (try simp only [Act.put, List.setIfInBounds_toArray, List.set_cons_zero, List.set_cons_succ])
  refine wpAnyT_take (i := 4) (oi := { dst := some 16, op := Op.load 9 (Operand.tmp 15), type := 9, pos := _, after := _, guard := none }) (v := ?_) rfl (by kernel_rfl) (by kernel_rfl) (by kernel_rfl) (by kernel_rfl) (fun _ _ _ h => h) (Or.inl ⟨by rfl, ?_⟩) (by assumption) ?_
  rotate_left
  · (intro w hSw; (try dsimp only at hSw); go_simp; (try with_reducible rfl))
  (try simp only [Act.put, List.setIfInBounds_toArray, List.set_cons_zero, List.set_cons_succ])
  refine wpAnyT_take (i := 5) (oi := { dst := some 17, op := Op.call { callee := Callee.builtin Builtin.len, args := #[Operand.tmp 16], argTypes := #[9] }, type := 3, pos := _, after := _, guard := none }) (v := ?_) rfl (by kernel_rfl) (by kernel_rfl) (by kernel_rfl) (by kernel_rfl) (fun _ _ _ h => h) (Or.inl ⟨by rfl, ?_⟩) (by assumption) ?_
  rotate_left
  · (intro w hSw; (try dsimp only at hSw); go_simp; (try with_reducible rfl))
  (try simp only [Act.put, List.setIfInBounds_toArray, List.set_cons_zero, List.set_cons_succ])
  refine wpAnyT_take (i := 6) (oi := { dst := some 18, op := Op.load 29 (Operand.global 2), type := 29, pos := _, after := _, guard := none }) (v := ?_) rfl (by kernel_rfl) (by kernel_rfl) (by kernel_rfl) (by kernel_rfl) (fun _ _ _ h => h) (Or.inl ⟨by rfl, ?_⟩) (by assumption) ?_
  rotate_left
  · (intro w hSw; (try dsimp only at hSw); go_simp; (try with_reducible rfl))
  (try simp only [Act.put, List.setIfInBounds_toArray, List.set_cons_zero, List.set_cons_succ])
  refine wpAnyT_one (i := 7) (o := { dst := some 19, op := Op.call { callee := Callee.value (Operand.func 50), args := #[Operand.tmp 17, Operand.tmp 18], argTypes := #[3, 29] }, type := 29, pos := _, after := _, guard := none }) (by kernel_rfl) rfl (fun K hK => ?_)
  go_simp
  refine ((fwrong_any S 0 s.size _).mono fun x w' hx => show ∃ e, x = Ending.returned e ∧ ErrIs w' S 0 129 s.size e ∧ TIn w w' S g s ⟨p, no, ea⟩ from ⟨hx.choose, hx.choose_spec.1, hx.choose_spec.2.1, (TIn.drewN (by assumption) 1).below hx.choose_spec.2.2⟩).mono ?_
  rintro x w6 ⟨e6, rfl, he6, hi6⟩
  obtain ⟨t6, u6, rfl⟩ := he6.iface
  go_wp2_with fail
  refine hK.out _ _ (fun _ => ?_) (fun hH1 => ?_)
  · (first | assumption | exact KT.out _ (by assumption) | exact KT.out _ (TIn.drewN (by assumption) 1))
  have hHeld1 := hH1 (by decide)
  clear hK K hH1
  (try simp only [Act.put, List.setIfInBounds_toArray, List.set_cons_zero, List.set_cons_succ])
  refine wpAnyT_one (i := 8) (o := { dst := some 20, op := Op.nilCheck (Operand.tmp 12), type := 0, pos := _, after := _, guard := none }) (by kernel_rfl) rfl (fun K hK => ?_)
  go_simp
  refine hK.out _ _ (fun _ => ?_) (fun hH2 => ?_)
  · (first | assumption | exact KT.out _ (by assumption) | exact KT.out _ (TIn.drewN (by assumption) 1))
  have hHeld2 := hH2 (by decide)
  clear hK K hH2
  (try simp only [Act.put, List.setIfInBounds_toArray, List.set_cons_zero, List.set_cons_succ])
  refine wpAnyT_one (i := 9) (o := { dst := some 21, op := Op.fieldAddr 87 (Operand.tmp 20) 2, type := 0, pos := _, after := _, guard := none }) (by kernel_rfl) rfl (fun K hK => ?_)
  obtain ⟨⟨_, y0⟩, y1⟩ := hi6.errCell
  go_simp
  refine hK.out _ _ (fun _ => ?_) (fun hH3 => ?_)
  · (first | assumption | exact KT.out _ (by assumption) | exact KT.out _ (TIn.drewN (by assumption) 1))
  have hHeld3 := hH3 (by decide)
  clear hK K hH3
  (try simp only [Act.put, List.setIfInBounds_toArray, List.set_cons_zero, List.set_cons_succ])
  refine wpAnyT_one (i := 10) (o := { dst := none, op := Op.store 29 (Operand.tmp 21) (Operand.tmp 19), type := 0, pos := _, after := _, guard := none }) (by kernel_rfl) rfl (fun K hK => ?_)
  go_simp
  refine hK.out _ _ (fun h => absurd rfl h) (fun _ => ?_)
  clear hK K
  (try simp only [Act.put, List.setIfInBounds_toArray, List.set_cons_zero, List.set_cons_succ])
  refine wpAnyT_done (by kernel_rfl) ?_ _
  have HN := Lib.hid (hi6.obj.failed (ErrOf.some (no := 1) (by omega) (by omega) he6))
  go_wp2_with fail
  go_ret
  exact ⟨rfl, HN.out.pre hi6.bel⟩
end
end Go.Proofs.YtnolnhpmpjgnaaaGreatDoor
namespace Go.Proofs.YtnolnhpmpjgnaaaGreatDoor
set_option maxRecDepth 100000
open Go.RowKit Go.Extern.Stop Go.Stop Go.Extern
section
variable {w w' : World} {S : Nat → Addr} {B g : Nat} {s : ByteArray} {R : RV}
theorem rtake_any (hE : Env w S) (h : RObj w S g s R) (hs : s.size ≤ 1000000) (n : Nat) :
    Calls Tryz.prog 45 #[.pointer (some ⟨g, 0, none⟩), .int .i64 n] w (TSays w S g s (.string (rTake s n R).1) (rTake s n R).2) := by
  by_cases h0 : R.no = 0
  · by_cases hn : s.size < R.p + n
    · have e : rTake s n R = (⟨#[]⟩, ⟨R.p, 1, s.size⟩) := by unfold rTake; rw [if_pos h0, if_pos hn]
      rw [e]
      exact rtake_short hE h h0 hs n hn
    · have e : rTake s n R = (s.extract R.p (R.p + n), ⟨R.p + n, R.no, R.ea⟩) := by unfold rTake; rw [if_pos h0, if_neg hn, h0]
      rw [e]
      exact rtake_ok h h0 hs n (by omega)
  · rw [rTake_stuck h0]
    exact rtake_stuck h h0 n
theorem take_size (s : ByteArray) (n : Nat) (R : RV) : (rTake s n R).1.size ≤ n := by
  unfold rTake
  split
  · split
    · exact Nat.zero_le _
    · simp; omega
  · exact Nat.zero_le _
/-- The number of the first bytes. -/
def preB (t : ByteArray) (i : Nat) : Nat := bv (t.data.toList.take i)
theorem preB_zero (t : ByteArray) : preB t 0 = 0 := rfl
theorem preB_all (t : ByteArray) : preB t t.size = bv t.data.toList := by
  unfold preB
  rw [List.take_of_length_le (by rw [bLen]; exact Nat.le_refl _)]
theorem preB_succ {t : ByteArray} {i : Nat} (h : i < t.size) : preB t (i + 1) = preB t i * 256 + t[i].toNat := by
  have hl : i < t.data.toList.length := by rw [bLen]; exact h
  unfold preB
  rw [List.take_succ_eq_append_getElem hl, bv_snoc]
  rfl
theorem preB_lt (t : ByteArray) (i : Nat) (h : i ≤ 4) : preB t i < 4294967296 := by
  have h1 := bv_lt (t.data.toList.take i)
  have h2 : (t.data.toList.take i).length ≤ 4 := by rw [List.length_take]; omega
  have h3 : 256 ^ (t.data.toList.take i).length ≤ 256 ^ 4 := Nat.pow_le_pow_right (by omega) h2
  unfold preB
  omega
set_option maxHeartbeats 1000000 in
theorem rnumber_any (hE : Env w S) (h : RObj w S g s R) (hs : s.size ≤ 1000000) (k : Nat) (hk : k ≤ 4) :
    Calls Tryz.prog 43 #[.pointer (some ⟨g, 0, none⟩), .int .i64 k] w (TSays w S g s (.int .i64 (rNum s k R).1) (rNum s k R).2) := by
  have HT := Lib.hid (rtake_any hE h hs k)
  have hz := take_size s k R
  have e1 : (rNum s k R).1 = bv (rTake s k R).1.data.toList := rfl
  have e2 : (rNum s k R).2 = (rTake s k R).2 := rfl
  rw [e1, e2]
  generalize (rTake s k R).2 = R' at *
  generalize (rTake s k R).1 = t at *
  have hb4 : t.size ≤ 4 := by omega
  clear e1 e2 hz hE h hs
  go_enter Tryz.func43, Tryz.ntmps43
  go_wp2_with fail
  refine HT.out.mono ?_
  rintro x w1 ⟨rfl, hN⟩
  have HN := Lib.hid hN
  clear hN HT
  go_wp2_with fail
  have HA := Lib.hid (preB_all t)
  go_loopg [5, 13] t.size (fun f x y wr => w1 = wr ∧ ∃ i : Nat, f = t.size - i ∧ i ≤ t.size ∧ x = .int .i64 (preB t i : Nat) ∧ y = .int .i64 i)
  case atStart => exact ⟨rfl, 0, rfl, Nat.zero_le _, rfl, rfl⟩
  case round =>
    obtain ⟨rfl, i, rfl, hi, rfl, rfl⟩ := hrel
    by_cases hlt : i < t.size
    · have hp := preB_succ hlt
      have hq := preB_lt t i (by omega)
      have hr := roll8 (preB t i) t[i].toNat (by omega) (by have := t[i].toNat_lt; omega)
      have hv := t[i].toNat_lt
      have HP := Lib.hid hp
      clear hp
      obtain ⟨r, hrr⟩ : ∃ r, preB t i * 256 + t[i].toNat = r := ⟨_, rfl⟩
      have HR := Lib.hid hrr
      rw [hrr] at hr
      clear hrr
      generalize hqq : preB t i = q at *
      have hq' : (q : Int) < 4294967296 := by omega
      clear hqq
      go_wp2
      go_roundg (t.size - (i + 1))
      case rel => exact ⟨rfl, i + 1, rfl, hlt, by rw [HP.out, HR.out], by go_num⟩
      case measure => omega
    · obtain rfl : i = t.size := by omega
      have hA := HA.out
      rw [hA]
      go_wp2
      go_ret
      exact ⟨rfl, HN.out⟩
theorem ru8_any (hE : Env w S) (h : RObj w S g s R) (hs : s.size ≤ 1000000) :
    Calls Tryz.prog 22 #[.pointer (some ⟨g, 0, none⟩)] w (TSays w S g s (.int .i64 (rNum s 1 R).1) (rNum s 1 R).2) := by
  have HN := Lib.hid (rnumber_any hE h hs 1 (by omega))
  clear h hE hs
  generalize rNum s 1 R = q at *
  go_enter Tryz.func22, Tryz.ntmps22
  go_wp2_with fail
  refine HN.out.mono ?_
  rintro x w1 ⟨rfl, hN⟩
  have HF := Lib.hid hN
  clear hN
  go_wp2
  go_ret
  exact ⟨rfl, HF.out⟩
theorem ru16_any (hE : Env w S) (h : RObj w S g s R) (hs : s.size ≤ 1000000) :
    Calls Tryz.prog 46 #[.pointer (some ⟨g, 0, none⟩)] w (TSays w S g s (.int .i64 (rNum s 2 R).1) (rNum s 2 R).2) := by
  have HN := Lib.hid (rnumber_any hE h hs 2 (by omega))
  clear h hE hs
  generalize rNum s 2 R = q at *
  go_enter Tryz.func46, Tryz.ntmps46
  go_wp2_with fail
  refine HN.out.mono ?_
  rintro x w1 ⟨rfl, hN⟩
  have HF := Lib.hid hN
  clear hN
  go_wp2
  go_ret
  exact ⟨rfl, HF.out⟩
theorem ru32_any (hE : Env w S) (h : RObj w S g s R) (hs : s.size ≤ 1000000) :
    Calls Tryz.prog 24 #[.pointer (some ⟨g, 0, none⟩)] w (TSays w S g s (.int .i64 (rNum s 4 R).1) (rNum s 4 R).2) := by
  have HN := Lib.hid (rnumber_any hE h hs 4 (by omega))
  clear h hE hs
  generalize rNum s 4 R = q at *
  go_enter Tryz.func24, Tryz.ntmps24
  go_wp2_with fail
  refine HN.out.mono ?_
  rintro x w1 ⟨rfl, hN⟩
  have HF := Lib.hid hN
  clear hN
  go_wp2
  go_ret
  exact ⟨rfl, HF.out⟩
theorem rvar_stuck (h : RObj w S g s R) (h0 : R.no ≠ 0) :
    Calls Tryz.prog 67 #[.pointer (some ⟨g, 0, none⟩)] w (TSays w S g s (.int .i64 0) R) := by
  have HE := Lib.hid (rended_yes h h0)
  have HS := Lib.hid (h.step (Below.refl _ _))
  clear h h0
  go_enter Tryz.func67, Tryz.ntmps67
  go_wp2_with fail
  refine HE.out.mono ?_
  rintro x w1 ⟨rfl, rfl⟩
  go_wp2
  go_ret
  exact ⟨rfl, HS.out⟩
theorem rvar_ok (hE : Env w S) (h : RObj w S g s R) (h0 : R.no = 0) (hs : s.size ≤ 1000000) (n k a : Nat) (hv : vt (s.extract R.p s.size) 4 0 0 1 = (n, k, 0, a)) (hk : R.p + k ≤ s.size) :
    Calls Tryz.prog 67 #[.pointer (some ⟨g, 0, none⟩)] w (TSays w S g s (.int .i64 n) ⟨R.p + k, R.no, R.ea⟩) := by
  have HE := Lib.hid (rended_no h h0)
  have hle := h.le
  have hi0 : TIn w w S g s R := ⟨h, hE, Below.refl _ _⟩
  have HT := Lib.hid (fun (W1 : World) (h : TIn w W1 S g s R) => (vi_take S (s.extract R.p s.size) W1 h.env (by simp; omega)).mono fun x w' hx => show x = Ending.returned (.tuple #[.int .i64 n, .int .i64 k, .nilIface]) ∧ TIn w w' S g s R from by
    obtain ⟨e, rfl, he, hb⟩ := hx
    rw [hv] at he ⊢
    obtain rfl : e = .nilIface := he
    exact ⟨rfl, h.below hb⟩)
  have KT := Lib.hid (fun (W1 : World) (h : TIn w W1 S g s R) => show W1.cell? ⟨g, 0, none⟩ = some (.string s) ∧ W1.cell? ⟨g, 1, none⟩ = some (.int .i64 R.p) ∧ W1.frozen? ⟨g, 1, none⟩ = false from by
    obtain ⟨e, hb, _⟩ := h.obj.blk
    exact ⟨hb.cell 0, hb.cell 1, hb.frozen 1⟩)
  have KS := Lib.hid (fun (W1 : World) (h : TIn w W1 S g s R) => show W1.cell? ⟨g, 0, none⟩ = some (.string s) ∧ W1.cell? ⟨g, 1, none⟩ = some (.int .i64 R.p) from ⟨(KT.out W1 h).1, (KT.out W1 h).2.1⟩)
  obtain ⟨p, no, ea⟩ := R
  simp only at *
  subst h0
  clear h hE hv
  go_enter Tryz.func67, Tryz.ntmps67
  go_wp2_with fail
  refine HE.out.mono ?_
  rintro x w1 ⟨rfl, rfl⟩
  obtain ⟨t0, t1, t2⟩ := KT.out _ hi0
  go_wp2_with fail
  go_region_held3 (fun W => W.cell? ⟨g, 0, none⟩ = some (.string s) ∧ W.cell? ⟨g, 1, none⟩ = some (.int .i64 p))
    (first | assumption | (exact KS.out _ (by assumption)) | (exact KS.out _ (TIn.drewN (by assumption) 1)))
    ((go_at_call 95; (with_reducible refine (HT.out _ ?_).mono ?_); (first | assumption | exact TIn.drewN (by assumption) 1); rintro x w6 ⟨rfl, hi6⟩))
  obtain ⟨y0, y1, y2⟩ := KT.out _ hi6
  have hpn := hk
  have q1 : IntKind.i64.wrap ((p : Int) + (k : Int)) = (p : Int) + (k : Int) := IntWalk.i64_in _ (by omega)
  have HN := Lib.hid ((hi6.obj.moved (p := p + k) hk).pre hi6.bel)
  clear t0 t1 t2 hi6
  go_wp2_with fail
  go_ret
  exact ⟨rfl, HN.out⟩
theorem rvar_bad (hE : Env w S) (h : RObj w S g s R) (h0 : R.no = 0) (hs : s.size ≤ 1000000) (n k no a : Nat) (hv : vt (s.extract R.p s.size) 4 0 0 1 = (n, k, no, a)) (hno : no ≠ 0) (ha : a ≤ 1000000) :
    Calls Tryz.prog 67 #[.pointer (some ⟨g, 0, none⟩)] w (TSays w S g s (.int .i64 0) ⟨R.p, no, R.p + a⟩) := by
  have HE := Lib.hid (rended_no h h0)
  have hle := h.le
  have hi0 : TIn w w S g s R := ⟨h, hE, Below.refl _ _⟩
  have HT := Lib.hid (fun (W1 : World) (h : TIn w W1 S g s R) => (vi_take S (s.extract R.p s.size) W1 h.env (by simp; omega)).mono fun x w' hx => show ∃ t u, x = Ending.returned (.tuple #[.int .i64 n, .int .i64 k, .iface t u]) ∧ ErrOf w' S 129 no a (.iface t u) ∧ TIn w w' S g s R from by
    obtain ⟨e, rfl, he, hb⟩ := hx
    rw [hv] at he ⊢
    obtain ⟨t, u, rfl⟩ := err_iface he hno
    exact ⟨t, u, rfl, he, h.below hb⟩)
  have KT := Lib.hid (fun (W1 : World) (h : TIn w W1 S g s R) => show W1.cell? ⟨g, 0, none⟩ = some (.string s) ∧ W1.cell? ⟨g, 1, none⟩ = some (.int .i64 R.p) from by
    obtain ⟨e, hb, _⟩ := h.obj.blk
    exact ⟨hb.cell 0, hb.cell 1⟩)
  obtain ⟨p, no0, ea⟩ := R
  simp only at *
  clear h hE hv
  go_enter Tryz.func67, Tryz.ntmps67
  go_wp2_with fail
  refine HE.out.mono ?_
  rintro x w1 ⟨rfl, rfl⟩
  obtain ⟨t0, t1⟩ := KT.out _ hi0
  go_wp2_with fail
  go_region_held3 (fun W => W.cell? ⟨g, 0, none⟩ = some (.string s) ∧ W.cell? ⟨g, 1, none⟩ = some (.int .i64 p))
    (first | assumption | (exact KT.out _ (by assumption)) | (exact KT.out _ (TIn.drewN (by assumption) 1)))
    ((go_at_call 95; (with_reducible refine (HT.out _ ?_).mono ?_); (first | assumption | exact TIn.drewN (by assumption) 1); rintro x w6 ⟨t6, u6, rfl, he6, hi6⟩))
  have HD := Lib.hid (fun (W1 : World) (h : TIn w W1 S g s ⟨p, no0, ea⟩) (he : ErrOf W1 S 129 no a (.iface t6 u6)) => (deeper_err (b := p) h.env he hno ha (by omega)).mono fun x w' hx => show ∃ t u, x = Ending.returned (.iface t u) ∧ ErrOf w' S 129 no (p + a) (.iface t u) ∧ TIn w w' S g s ⟨p, no0, ea⟩ from by
    obtain ⟨e, rfl, he, hb⟩ := hx
    obtain ⟨t, u, rfl⟩ := err_iface he hno
    rw [Nat.add_comm a p] at he
    exact ⟨t, u, rfl, he, h.below hb⟩)
  have HX := Lib.hid he6
  clear t0 t1 HE HT he6
  obtain ⟨t0, t1⟩ := KT.out _ hi6
  go_wp2_with fail
  refine (HD.out _ hi6 HX.out).mono ?_
  rintro x w7 ⟨t7, u7, rfl, he7, hi7⟩
  obtain ⟨⟨_, y0⟩, y1⟩ := hi7.errCell
  have HN := Lib.hid ((hi7.obj.failed he7).pre hi7.bel)
  clear hi7 hi6 he7 t0 t1
  go_wp2_with fail
  go_ret
  exact ⟨rfl, HN.out⟩
theorem vt_bd (s : ByteArray) (f : Nat) : ∀ i n b : Nat, i ≤ s.size → (vt s f i n b).2.1 ≤ s.size ∧ (vt s f i n b).2.2.2 ≤ s.size + 3 := by
  induction f with
  | zero => exact fun i n b _ => ⟨Nat.zero_le _, Nat.le_add_left _ _⟩
  | succ f ih =>
    intro i n b hi
    by_cases hlt : i < s.size
    · by_cases hc : s[i].toNat < 128
      · by_cases h0 : s[i].toNat = 0 ∧ 0 < i
        · rw [vt_zero hlt h0.1 h0.2]
          exact ⟨Nat.zero_le _, by simp only; omega⟩
        · rw [vt_last hlt hc h0]
          exact ⟨hlt, Nat.zero_le _⟩
      · rw [vt_more hlt hc]
        exact ih _ _ _ hlt
    · rw [vt_short hlt]
      exact ⟨Nat.zero_le _, Nat.le_add_right _ _⟩
theorem rvar_any (hE : Env w S) (h : RObj w S g s R) (hs : s.size ≤ 900000) :
    Calls Tryz.prog 67 #[.pointer (some ⟨g, 0, none⟩)] w (TSays w S g s (.int .i64 (rVar s R).1) (rVar s R).2) := by
  by_cases h0 : R.no = 0
  · obtain ⟨f, hf⟩ : ∃ f, vt (s.extract R.p s.size) 4 0 0 1 = f := ⟨_, rfl⟩
    have hb := vt_bd (s.extract R.p s.size) 4 0 0 1 (Nat.zero_le _)
    have hle := h.le
    have hz : (s.extract R.p s.size).size = s.size - R.p := by simp
    rw [hf, hz] at hb
    obtain ⟨n, k, no, a⟩ := f
    simp only at hb
    unfold rVar
    rw [if_pos h0, hf]
    unfold rVarOf
    simp only
    by_cases hno : no = 0
    · subst hno
      rw [if_pos rfl]
      have := rvar_ok hE h h0 (by omega) n k a hf (by omega)
      rw [h0] at this
      exact this
    · rw [if_neg hno]
      exact rvar_bad hE h h0 (by omega) n k no a hf hno (by omega)
  · unfold rVar
    rw [if_neg h0]
    exact rvar_stuck h h0
end
end Go.Proofs.YtnolnhpmpjgnaaaGreatDoor
namespace Go.Proofs.YtnolnhpmpjgnaaaGreatDoor
set_option maxRecDepth 100000
open Go.RowKit Go.Extern.Stop Go.Stop Go.Extern
section
variable {w w' : World} {S : Nat → Addr} {B g : Nat} {s : ByteArray} {R : RV}
theorem rnew_any (s : ByteArray) (w : World) : Calls Tryz.prog 21 #[.string s] w fun x w' => x = .returned (.pointer (some ⟨w.heap.size, 0, none⟩)) ∧ w' = w.alloc (.cells #[.string s, .int .i64 0, .nilIface] 87) := by
  go_enter Tryz.func21, Tryz.ntmps21
  go_wp2_with fail
  go_ret
  exact ⟨rfl, rfl⟩
theorem rdone_err (h : RObj w S g s R) (h0 : R.no ≠ 0) : Calls Tryz.prog 26 #[.pointer (some ⟨g, 0, none⟩)] w fun x w' => ∃ e, x = .returned e ∧ ErrOf w' S 129 R.no R.ea e ∧ Below w.heap.size w w' := by
  have HR := Lib.hid (rerr_any h)
  clear h
  go_enter Tryz.func26, Tryz.ntmps26
  go_wp2_with fail
  refine HR.out.mono ?_
  rintro x w1 ⟨e, rfl, he, rfl⟩
  obtain ⟨t, u, rfl⟩ := err_iface he h0
  have HE := Lib.hid he
  clear he h0
  go_wp2
  go_ret
  exact ⟨_, rfl, HE.out, Below.refl _ _⟩
theorem rdone_end (h : RObj w S g s R) (h0 : R.no = 0) (hs : s.size ≤ 1000000) (hp : R.p = s.size) : Calls Tryz.prog 26 #[.pointer (some ⟨g, 0, none⟩)] w fun x w' => x = .returned .nilIface ∧ Below w.heap.size w w' := by
  have HR := Lib.hid (rerr_any h)
  have HL := Lib.hid (rleft_any h hs)
  have e0 : s.size - R.p = 0 := by omega
  rw [e0] at HL
  clear h e0 hp
  go_enter Tryz.func26, Tryz.ntmps26
  go_wp2_with fail
  refine HR.out.mono ?_
  rintro x w1 ⟨e, rfl, he, rfl⟩
  unfold ErrOf at he
  rw [if_pos h0] at he
  subst he
  go_wp2_with fail
  refine HL.out.mono ?_
  rintro x w2 ⟨rfl, hb⟩
  go_wp2
  go_ret
  exact ⟨rfl, hb⟩
theorem rdone_left (hE : Env w S) (h : RObj w S g s R) (h0 : R.no = 0) (hs : s.size ≤ 1000000) (hp : R.p < s.size) : Calls Tryz.prog 26 #[.pointer (some ⟨g, 0, none⟩)] w fun x w' => ∃ e, x = .returned e ∧ ErrOf w' S 129 2 R.p e ∧ Below w.heap.size w w' := by
  have HR := Lib.hid (rerr_any h)
  have HL := Lib.hid (rleft_any h hs)
  obtain ⟨m, hm⟩ : ∃ m, s.size - R.p = m + 1 := ⟨s.size - R.p - 1, by omega⟩
  rw [hm] at HL
  have H := Lib.hid h
  have HW := Lib.hid hE
  clear h hm hp hE
  go_enter Tryz.func26, Tryz.ntmps26
  go_wp2_with fail
  refine HR.out.mono ?_
  rintro x w1 ⟨e, rfl, he, rfl⟩
  unfold ErrOf at he
  rw [if_pos h0] at he
  subst he
  go_wp2_with fail
  refine HL.out.mono ?_
  rintro x w2 ⟨rfl, hb⟩
  have hi0 : TIn w w2 S g s R := ⟨H.out.below hb, HW.out.later hb, hb⟩
  have KT := Lib.hid (fun (W1 : World) (h : TIn w W1 S g s R) => h.env.kMalformed)
  have D29 := Lib.hid (fun (W1 : World) (h : TIn w W1 S g s R) => (rat_any h.obj).mono fun x w' hx => show x = Ending.returned (.int .i64 R.p) ∧ TIn w w' S g s R from ⟨hx.1, hx.2 ▸ h⟩)
  have D68 := Lib.hid (fun (W1 : World) (h : TIn w W1 S g s R) => (fwrong_any S 1 R.p W1).mono fun x w' hx => show ∃ e, x = Ending.returned e ∧ ErrOf w' S 129 2 R.p e ∧ TIn w w' S g s R from ⟨hx.choose, hx.choose_spec.1, ErrOf.some (by omega) (by omega) hx.choose_spec.2.1, h.below hx.choose_spec.2.2⟩)
  have t0 := KT.out _ hi0
  clear H HW hb
  go_wp2_with fail
  go_region_held3 (fun W => W.cell? ⟨0, 0, none⟩ = some (.iface 188 (.pointer (some (S 1)))))
    (first | assumption | (exact KT.out _ (by assumption)) | (exact KT.out _ (TIn.drewN (by assumption) 1)))
    (first
    | (go_at_call 44; (with_reducible refine (D29.out _ ?_).mono ?_); (first | assumption | exact TIn.drewN (by assumption) 1); rintro x w6 ⟨rfl, hi6⟩)
    | (go_at_call 50; (with_reducible refine (D68.out _ ?_).mono ?_); (first | assumption | exact TIn.drewN (by assumption) 1); rintro x w7 ⟨e7, rfl, he7, hi7⟩))
  have HX := Lib.hid he7
  have HI := Lib.hid hi7.bel
  clear he7 hi7 t0
  go_wp2_with fail
  go_ret
  exact ⟨_, rfl, HX.out, HI.out⟩
theorem rbin_any (hE : ∀ w1, Fr [g] w w1 → Env w1 S) (h : RObj w S g s R) (hs : s.size ≤ 900000) :
    Calls Tryz.prog 23 #[.pointer (some ⟨g, 0, none⟩)] w (TSays w S g s (.string (rBin s R).1) (rBin s R).2) := by
  have HA := Lib.hid (rat_any h)
  have HU := Lib.hid (ru16_any (hE w (Fr.refl _ _)) h (by omega))
  have HW := Lib.hid hE
  have HTK := Lib.hid (fun (W1 : World) (R1 : RV) (n : Nat) (hf : Fr [g] w W1) (h : RObj W1 S g s R1) => rtake_any (hE W1 hf) h (by omega) n)
  have hle := h.le
  have HLE := Lib.hid hle
  clear h hE hle
  unfold rBin
  generalize rNum s 2 R = q at *
  obtain ⟨n, R1⟩ := q
  simp only at *
  generalize hq2 : rTake s n R1 = q2
  obtain ⟨t, R2⟩ := q2
  have HQ := Lib.hid hq2
  clear hq2
  simp only at *
  obtain ⟨R3, hR3⟩ : ∃ R3, (if R2.no = 0 then R2 else ⟨R.p, R2.no, R2.ea⟩) = R3 := ⟨_, rfl⟩
  rw [hR3]
  have HR3 := Lib.hid hR3
  clear hR3
  go_enter Tryz.func23, Tryz.ntmps23
  go_wp2_with fail
  refine HA.out.mono ?_
  rintro x w1 ⟨rfl, rfl⟩
  go_wp2_with fail
  refine HU.out.mono ?_
  rintro x w2 ⟨rfl, hN2⟩
  have HN2 := Lib.hid hN2
  clear hN2
  go_wp2_with fail
  refine (HTK.out _ _ n HN2.out.fr HN2.out.obj).mono ?_
  rintro x w3 ⟨rfl, hN3⟩
  have HN3 := Lib.hid (HN2.out.trans hN3)
  clear hN3
  rw [HQ.out] at HN3 ⊢
  simp only at HN3 ⊢
  go_wp2_with fail
  refine (rerr_any HN3.out.obj).mono ?_
  rintro x w4 ⟨e, rfl, he, rfl⟩
  by_cases h0 : R2.no = 0
  · have e3 : R2 = R3 := (if_pos h0).symm.trans HR3.out
    rw [e3] at HN3
    unfold ErrOf at he
    rw [if_pos h0] at he
    subst he
    clear e3
    go_wp2
    go_ret
    exact ⟨rfl, HN3.out⟩
  · have e3 : (⟨R.p, R2.no, R2.ea⟩ : RV) = R3 := (if_neg h0).symm.trans HR3.out
    obtain ⟨t4, u4, rfl⟩ := err_iface he h0
    have hM := HN3.out.trans (HN3.out.obj.moved HLE.out)
    rw [e3] at hM
    have HM := Lib.hid hM
    obtain ⟨e5, hb5, _⟩ := HN3.out.obj.blk
    have y0 : w3.cell? ⟨g, 1, none⟩ = some (.int .i64 R2.p) := hb5.cell 1
    have y1 : w3.frozen? ⟨g, 1, none⟩ = false := hb5.frozen 1
    clear he h0 hb5 e3 hM
    go_wp2
    go_ret
    exact ⟨rfl, HM.out⟩
end
end Go.Proofs.YtnolnhpmpjgnaaaGreatDoor
namespace Go.Proofs.YtnolnhpmpjgnaaaGreatDoor
set_option maxRecDepth 100000
open Go.RowKit Go.Extern.Stop Go.Stop Go.Extern
theorem take_small (s : ByteArray) (n : Nat) (R : RV) : (rTake s n R).1.size ≤ s.size := by
  unfold rTake
  split
  · split
    · exact Nat.zero_le _
    · simp; omega
  · exact Nat.zero_le _
theorem bin_small (s : ByteArray) (R : RV) : (rBin s R).1.size ≤ s.size := take_small _ _ _
section
variable {w w' : World} {S : Nat → Addr} {B g : Nat} {s : ByteArray} {R : RV}
theorem rtext_ok (hE : ∀ w1, Fr [g] w w1 → Env w1 S) (h : RObj w S g s R) (hs : s.size ≤ 900000) (hc : (checkOf (rBin s R).1).1 = 0) :
    Calls Tryz.prog 119 #[.pointer (some ⟨g, 0, none⟩)] w (TSays w S g s (.string (rBin s R).1) (rBin s R).2) := by
  have HA := Lib.hid (rat_any h)
  have HB := Lib.hid (rbin_any hE h hs)
  have hz := bin_small s R
  have HC := Lib.hid (fun (W1 : World) (hf : Fr [g] w W1) => ut_check S (rBin s R).1 W1 (hE W1 hf) (by omega))
  rw [(check_zero hc).2.2] at HC
  clear h hE hc hz
  generalize rBin s R = q at *
  go_enter Tryz.func119, Tryz.ntmps119
  go_wp2_with fail
  refine HA.out.mono ?_
  rintro x w1 ⟨rfl, rfl⟩
  go_wp2_with fail
  refine HB.out.mono ?_
  rintro x w2 ⟨rfl, hN2⟩
  have HN2 := Lib.hid hN2
  clear hN2
  go_wp2_with fail
  refine (HC.out _ HN2.out.fr).mono ?_
  rintro x w3 ⟨e, rfl, he, hb⟩
  obtain rfl : e = .nilIface := he
  have HN3 := Lib.hid (HN2.out.below hb)
  clear hb
  go_wp2_with fail
  go_ret
  exact ⟨rfl, HN3.out⟩
theorem rtext_bad (hE : ∀ w1, Fr [g] w w1 → Env w1 S) (h : RObj w S g s R) (hs : s.size ≤ 900000) (hc : (checkOf (rBin s R).1).1 ≠ 0) :
    Calls Tryz.prog 119 #[.pointer (some ⟨g, 0, none⟩)] w (TSays w S g s (.string ⟨#[]⟩) ⟨R.p, (checkOf (rBin s R).1).1, R.p + 2 + (checkOf (rBin s R).1).2⟩) := by
  have HA := Lib.hid (rat_any h)
  have HB := Lib.hid (rbin_any hE h hs)
  have hz := bin_small s R
  have hle := h.le
  have HLE := Lib.hid hle
  have HC := Lib.hid (fun (W1 : World) (hf : Fr [g] w W1) => ut_check S (rBin s R).1 W1 (hE W1 hf) (by omega))
  have hat := check_at (rBin s R).1
  have HW := Lib.hid hE
  clear h hE hz
  generalize rBin s R = q at *
  obtain ⟨t, R2⟩ := q
  simp only at *
  generalize checkOf t = c at *
  obtain ⟨no, a⟩ := c
  simp only at *
  go_enter Tryz.func119, Tryz.ntmps119
  go_wp2_with fail
  refine HA.out.mono ?_
  rintro x w1 ⟨rfl, rfl⟩
  go_wp2_with fail
  refine HB.out.mono ?_
  rintro x w2 ⟨rfl, hN2⟩
  have HN2 := Lib.hid hN2
  clear hN2
  go_wp2_with fail
  refine (HC.out _ HN2.out.fr).mono ?_
  rintro x w3 ⟨e, rfl, he, hb⟩
  obtain ⟨t3, u3, rfl⟩ := err_iface he hc
  have HN3 := Lib.hid (HN2.out.below hb)
  have HX := Lib.hid he
  clear hb he
  have HAT := Lib.hid hat
  clear hat
  go_wp2_with fail
  have hsum : (R.p : Int) + 2 = ((R.p + 2 : Nat) : Int) := by omega
  rw [hsum]
  refine (deeper_err (b := R.p + 2) (HW.out _ HN3.out.fr) HX.out hc (by have := HAT.out; omega) (by omega)).mono ?_
  rintro x w4 ⟨e4, rfl, he4, hb4⟩
  rw [Nat.add_comm a (R.p + 2)] at he4
  have h4 := HN3.out.below hb4
  have hm := h4.obj.moved (p := R.p) HLE.out
  have hx := hm.obj.failed (err_fr he4 hm.fr h4.obj.nof)
  obtain ⟨t4, u4, rfl⟩ := err_iface he4 hc
  obtain ⟨e5, hb5, _⟩ := h4.obj.blk
  have y0 : w4.cell? ⟨g, 1, none⟩ = some (.int .i64 R2.p) := hb5.cell 1
  have y1 : w4.frozen? ⟨g, 1, none⟩ = false := hb5.frozen 1
  have hb6 := hb5.store 1 (.int .i64 R.p)
  have y2 : (w4.setCell ⟨g, 1, none⟩ (.int .i64 R.p)).cell? ⟨g, 2, none⟩ = some e5 := hb6.cell 2
  have y3 : (w4.setCell ⟨g, 1, none⟩ (.int .i64 R.p)).frozen? ⟨g, 2, none⟩ = false := hb6.frozen 2
  have HF := Lib.hid ((h4.trans hm).trans hx)
  clear h4 hm hx hb5 hb6 hb4 he4 hsum
  go_wp2_with fail
  go_ret
  exact ⟨rfl, HF.out⟩
theorem rdtext_any (hE : ∀ w1, Fr [g] w w1 → Env w1 S) (h : RObj w S g s R) (hs : s.size ≤ 900000) :
    Calls Tryz.prog 119 #[.pointer (some ⟨g, 0, none⟩)] w (TSays w S g s (.string (rText s R).1) (rText s R).2) := by
  unfold rText
  by_cases hc : (checkOf (rBin s R).1).1 = 0
  · rw [if_pos hc]
    exact rtext_ok hE h hs hc
  · rw [if_neg hc]
    exact rtext_bad hE h hs hc
/-- What the statements' read answers. -/
def ReadSays (w : World) (S : Nat → Addr) (g : Nat) (s : ByteArray) (q : Nat × ByteArray × RV) (x : Ending) (w' : World) : Prop := x = .returned (.tuple #[.int .i64 q.1, .string q.2.1]) ∧ RNext w w' S g s q.2.2
end
end Go.Proofs.YtnolnhpmpjgnaaaGreatDoor
namespace Go.Proofs.YtnolnhpmpjgnaaaGreatDoor
set_option maxRecDepth 100000
open Go.RowKit Go.Extern.Stop Go.Stop Go.Extern
theorem aw_check : checkOf ⟨#[97]⟩ = (0, 0) := by
  have e : (⟨#[97]⟩ : ByteArray) = rep 1 := rfl
  rw [e]
  exact check_ok (by decide) (by rw [rep_cut, rep_size])
theorem aw_w1 : stepW w0 (numE 2 258) = ⟨0, 0, [1, 2]⟩ := by rfl
theorem aw_w2 : stepW ⟨0, 0, [1, 2]⟩ (textE ⟨#[97]⟩) = ⟨0, 0, [1, 2, 0, 1, 97]⟩ := by
  unfold textE
  rw [aw_check]
  rfl
def awS : ByteArray := ⟨#[1, 2, 0, 1, 97, 120]⟩
theorem aw_r1 : rNum awS 2 ⟨0, 0, 0⟩ = (258, ⟨2, 0, 0⟩) := rNum_ok (pre := []) (k := 2) (n := 258) (post := [0, 1, 97, 120]) (by decide) (by rfl) 0
theorem aw_r2 : rText awS ⟨2, 0, 0⟩ = (⟨#[97]⟩, ⟨5, 0, 0⟩) := rText_ok (pre := [1, 2]) (x := ⟨#[97]⟩) (post := [120]) (by rw [aw_check]) (by rfl) 0
theorem aw_r3 : rNum awS 4 ⟨5, 0, 0⟩ = (0, ⟨5, 1, 6⟩) := rNum_short (pre := [1, 2, 0, 1, 97]) (x := [120]) (by rfl) (by decide) 0
theorem env_cl {w W : World} {S : Nat → Addr} {g : Nat} (hE : Env w S) (hb : Below w.heap.size w W) (hg : w.heap.size ≤ g) : ∀ w1, Fr [g] W w1 → Env w1 S :=
  fun _ hf => hE.later (hf.later hb (fun b hx => by rw [List.mem_singleton] at hx; omega) hb.size)
section
variable {w w' : World} {S : Nat → Addr}
end
end Go.Proofs.YtnolnhpmpjgnaaaGreatDoor
