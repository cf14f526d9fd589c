/- What is proved here: the document's own writer of fields: the bytes of a number, and what each field does to it. Conditions: the writer is there, with few bytes. What is proved here: the document's own bytes of properties. Conditions: the properties stand where the slices say, few of them, of few bytes. What is proved here: PropEncodes answers true for every place and properties. Condition: what the rows list of the package's variables. -/
import Derived.Test.YtnolnhpmpjgnaaaGreatDoorWlw04
import Derived.Test.YtnolnhpmpjgnaaaGreatDoorRegT
import Derived.Test.YtnolnhpmpjgnaaaGreatDoorRck06
namespace Go.Proofs.YtnolnhpmpjgnaaaGreatDoor
set_option maxRecDepth 100000
open Go.RowKit Go.Extern.Stop Go.Stop Go.Extern
theorem be_cat (k n : Nat) : (⟨[UInt8.ofNat (n / 256 ^ k % 256)].toArray⟩ : ByteArray) ++ ⟨(be k n).toArray⟩ = ⟨(be (k + 1) n).toArray⟩ := by
  apply ba_eq
  rw [be_head]
  simp
set_option maxRecDepth 100000 in
set_option maxHeartbeats 1000000 in
theorem rnum_any (m u : Nat) (w : World) (hm : m ≤ 4) (hu : u ≤ 4294967296) :
    Calls Tryz.prog 89 #[.int .i64 u, .int .i64 m] w fun x w' => x = .returned (.string ⟨(be m u).toArray⟩) ∧ Below w.heap.size w w' := by
  go_enter Tryz.func89, Tryz.ntmps89
  go_wp2
  go_loopg [0, 5, 6] m (fun f x y z wr => ∃ k : Nat, f = m - k ∧ k ≤ m ∧ x = .int .i64 ((u / 256 ^ k : Nat) : Int) ∧ y = .string ⟨(be k u).toArray⟩ ∧ z = .int .i64 k ∧ Below w.heap.size w wr)
  case atStart => exact ⟨0, rfl, Nat.zero_le _, by simp, rfl, rfl, Below.refl _ _⟩
  case round =>
    obtain ⟨k, rfl, hk, rfl, rfl, rfl, hb⟩ := hrel
    have HB := Lib.hid hb
    have HC := Lib.hid (be_cat k u)
    have hq : u / 256 ^ k ≤ 4294967296 := Nat.le_trans (Nat.div_le_self _ _) hu
    have hq1 : u / 256 ^ (k + 1) = u / 256 ^ k / 256 := by rw [Nat.div_div_eq_div_mul, Nat.pow_succ]
    have HQ := Lib.hid hq1
    have hbs : (⟨(be k u).toArray⟩ : ByteArray).size = k := by rw [bsize, be_len]
    generalize u / 256 ^ k = q at *
    clear hb hq1 hu
    by_cases hlt : k < m
    · have hc := conv_cells wr [UInt8.ofNat (q % 256)] #[.int .u8 ((q : Int) % 256)] (by
        rw [List.map_singleton, byteV_ofNat (Nat.mod_lt _ (by omega))]
        rfl)
      have hcat := HC.out
      have has : (⟨[UInt8.ofNat (q % 256)].toArray⟩ : ByteArray).size = 1 := rfl
      rw [List.length_singleton] at hc
      generalize (⟨[UInt8.ofNat (q % 256)].toArray⟩ : ByteArray) = a at *
      generalize (⟨(be k u).toArray⟩ : ByteArray) = b at *
      obtain ⟨c, hce⟩ : ∃ c, (⟨(be (k + 1) u).toArray⟩ : ByteArray) = c := ⟨_, rfl⟩
      rw [hce] at hcat
      have HE := Lib.hid hce
      clear hce
      have hlt' : (k : Int) < (m : Int) := by omega
      have hsm : a.size + b.size ≤ 9223372036854775807 := by omega
      go_wp2
      go_roundg (m - (k + 1))
      case rel => exact ⟨k + 1, rfl, hlt, by rw [HQ.out]; rfl, by rw [HE.out], by go_num, HB.out.alloc HB.out.size _⟩
      case measure => omega
    · obtain rfl : k = m := by omega
      clear hk HC
      go_wp2
      go_ret
      exact ⟨rfl, HB.out⟩
/-- The document's writer: its bytes, its error's number, and where that is. -/
def RWObj (w : World) (g : Nat) (W : EV) : Prop := ∃ (l : List UInt8) (a : Nat), Blk w g 107 #[.string ⟨l.toArray⟩, .int .i64 W.no, .int .i64 a] ∧ (W.no = 0 → l = W.L) ∧ (W.no ≠ 0 → a = W.at_)
def RWNext (w w' : World) (g : Nat) (W' : EV) : Prop := RWObj w' g W' ∧ Fr [g] w w'
section
variable {w w' w2 : World} {g : Nat} {W W' : EV} {X : List Nat}
theorem RWObj.lt (h : RWObj w g W) : g < w.heap.size := by obtain ⟨l, a, h, _⟩ := h; exact h.lt
theorem RWObj.fr (h : RWObj w g W) (hf : Fr X w w') (hg : g ∉ X) : RWObj w' g W := by
  obtain ⟨l, a, h, h1, h2⟩ := h
  exact ⟨l, a, h.fr hf hg, h1, h2⟩
theorem RWObj.below (h : RWObj w g W) (hb : Below w.heap.size w w') : RWObj w' g W := h.fr (X := []) (Fr.of_below hb) (by simp)
theorem RWObj.step (h : RWObj w g W) (hb : Below w.heap.size w w') : RWNext w w' g W := ⟨h.below hb, Fr.of_below hb⟩
theorem RWNext.pre {w1 : World} (h : RWNext w1 w' g W) (hb : Below w.heap.size w w1) : RWNext w w' g W := ⟨h.1, (Fr.of_below (X := [g]) hb).trans h.2 fun _ hk _ => hk⟩
theorem RWObj.made (w : World) : RWObj (w.alloc (.cells #[.string ⟨#[]⟩, .int .i64 0, .int .i64 0] 107)) w.heap.size w0 :=
  ⟨[], 0, Blk.made w _ _, fun _ => rfl, fun h => absurd rfl h⟩
theorem rwfail_any (h : RWObj w g W) (no a : Nat) (h0 : no ≠ 0) (L : List UInt8) :
    Calls Tryz.prog 88 #[.pointer (some ⟨g, 0, none⟩), .int .i64 no, .int .i64 a] w fun x w' => x = .returned (.tuple #[]) ∧ RWNext w w' g ⟨no, a, L⟩ := by
  obtain ⟨l, a0, hb, _⟩ := h
  have c1 : w.cell? ⟨g, 1, none⟩ = some (.int .i64 W.no) := hb.cell 1
  have d1 : w.frozen? ⟨g, 1, none⟩ = false := hb.frozen 1
  have hb2 := hb.store 1 (.int .i64 no)
  have c2 : (w.setCell ⟨g, 1, none⟩ (.int .i64 no)).cell? ⟨g, 2, none⟩ = some (.int .i64 a0) := hb2.cell 2
  have d2 : (w.setCell ⟨g, 1, none⟩ (.int .i64 no)).frozen? ⟨g, 2, none⟩ = false := hb2.frozen 2
  have hb3 := hb2.store 2 (.int .i64 a)
  have hf : Fr [g] w ((w.setCell ⟨g, 1, none⟩ (.int .i64 no)).setCell ⟨g, 2, none⟩ (.int .i64 a)) := ((Fr.refl [g] w).setCell (p := ⟨g, 1, none⟩) (.inl (List.mem_singleton_self g)) _).setCell (p := ⟨g, 2, none⟩) (.inl (List.mem_singleton_self g)) _
  have HF := Lib.hid (show RWNext w _ g ⟨no, a, L⟩ from ⟨⟨l, a, hb3, fun h => absurd h h0, fun _ => rfl⟩, hf⟩)
  clear hb hb2 hb3 hf
  go_enter Tryz.func88, Tryz.ntmps88
  go_wp2
  exact bodyPost_end (v := .tuple #[]) (by simp [results, Tryz.results88, go_sem]) rfl ⟨rfl, HF.out⟩
/-- The world of an act of the document's writer: the writer, and the act in a block of its own. -/
structure RWin (w W : World) (g bx : Nat) (a : ByteArray) (a0 : Nat) (cs : Array Value) : Prop where
  blk : Blk W g 107 #[.string a, .int .i64 0, .int .i64 a0]
  box : Blk W bx 110 cs
  bel : Below w.heap.size w W
theorem RWin.below {W W' : World} {bx : Nat} {a : ByteArray} {a0 : Nat} {cs : Array Value} (h : RWin w W g bx a a0 cs) (hb : Below W.heap.size W W') : RWin w W' g bx a a0 cs :=
  ⟨h.blk.below hb h.blk.lt, h.box.below hb h.box.lt, h.bel.trans (hb.mono h.bel.size)⟩
theorem RWin.drewN {W : World} {bx : Nat} {a : ByteArray} {a0 : Nat} {cs : Array Value} (h : RWin w W g bx a a0 cs) (d : Nat) : RWin w (W.drewN d) g bx a a0 cs := h.below (below_drewN (Below.refl _ _) d)
theorem RWin.frozen {W : World} {bx : Nat} {a : ByteArray} {a0 : Nat} {cs : Array Value} (h : RWin w W g bx a a0 cs) : W.frozen? ⟨g, 0, none⟩ = false := h.blk.frozen 0
theorem RWin.stored {W : World} {bx : Nat} {L : List UInt8} {a c : ByteArray} {a0 : Nat} {cs : Array Value} (h : RWin w W g bx a a0 cs) (hc : c = ⟨L.toArray⟩) (at_ : Nat) : RWNext w (W.setCell ⟨g, 0, none⟩ (.string c)) g ⟨0, at_, L⟩ := by
  subst hc
  exact ⟨⟨L, a0, h.blk.store 0 _, fun _ => rfl, fun h => absurd rfl h⟩, (Fr.of_below (X := [g]) h.bel).setCell (p := ⟨g, 0, none⟩) (.inl (List.mem_singleton_self g)) _⟩
theorem RWObj.start (h : RWObj w g W) (h0 : W.no = 0) (cs : Array Value) : ∃ a0, RWin w (w.alloc (.cells cs 110)) g w.heap.size ⟨W.L.toArray⟩ a0 cs := by
  have hb0 : Below w.heap.size w (w.alloc (.cells cs 110)) := (Below.refl _ _).alloc (Nat.le_refl _) _
  obtain ⟨l, a0, hb, h1, _⟩ := h.below hb0
  obtain rfl := h1 h0
  rw [h0] at hb
  exact ⟨a0, hb, Blk.made w _ cs, hb0⟩
set_option maxHeartbeats 1000000 in
theorem rwdo_1 (h : RWObj w g W) (h0 : W.no = 0) (hl : W.L.length ≤ 900000) (n : Nat) (s : ByteArray) (hn : n < 256) :
    Calls Tryz.prog 64 #[.pointer (some ⟨g, 0, none⟩), .agg #[.int .i64 1, .int .i64 n, .string s]] w fun x w' => x = .returned (.tuple #[]) ∧ RWNext w w' g ⟨0, W.at_, W.L ++ be 1 n⟩ := by
  obtain ⟨a0, hi⟩ := h.start h0 #[.int .i64 1, .int .i64 n, .string s]
  have hsz : (⟨W.L.toArray⟩ : ByteArray).size = W.L.length := bsize _
  have htz : (⟨(be 1 n).toArray⟩ : ByteArray).size = 1 := by rw [bsize, be_len]
  have hcat : (⟨W.L.toArray⟩ : ByteArray) ++ ⟨(be 1 n).toArray⟩ = ⟨(W.L ++ be 1 n).toArray⟩ := by
    apply ba_eq
    simp
  have hnum := fun W1 => rnum_any 1 n W1 (by omega) (by omega)
  have HS := Lib.hid (fun (W1 : World) (c : ByteArray) (hc : c = ⟨W.L.toArray⟩ ++ ⟨(be 1 n).toArray⟩) (h : RWin w W1 g w.heap.size ⟨W.L.toArray⟩ a0 #[.int .i64 1, .int .i64 n, .string s]) => RWin.stored (c := c) h (hc.trans hcat) W.at_)
  generalize (⟨W.L.toArray⟩ : ByteArray) = a at *
  generalize (⟨(be 1 n).toArray⟩ : ByteArray) = t at *
  obtain ⟨c, hrun, hce, _⟩ := cat_run a t (by omega)
  have HCE := Lib.hid hce
  clear hce
  have KS := Lib.hid (fun (W1 : World) (h : RWin w W1 g w.heap.size a a0 #[.int .i64 1, .int .i64 n, .string s]) => show W1.cell? ⟨g, 0, none⟩ = some (.string a) ∧ W1.cell? ⟨w.heap.size, 0, none⟩ = some (.int .i64 1) ∧ W1.cell? ⟨w.heap.size, 1, none⟩ = some (.int .i64 n) from ⟨h.blk.cell 0, h.box.cell 0, h.box.cell 1⟩)
  have HC := Lib.hid (fun (W1 : World) (h : RWin w W1 g w.heap.size a a0 #[.int .i64 1, .int .i64 n, .string s]) => (hnum W1).mono fun x w' hx => show x = Ending.returned (.string t) ∧ RWin w w' g w.heap.size a a0 #[.int .i64 1, .int .i64 n, .string s] from ⟨hx.1, h.below hx.2⟩)
  obtain ⟨c0, c2, c3⟩ := KS.out _ hi
  have c1 : (w.alloc (.cells #[.int .i64 1, .int .i64 n, .string s] 110)).cell? ⟨g, 1, none⟩ = some (.int .i64 0) := hi.blk.cell 1
  have HI := Lib.hid (fun d => hi.drewN d)
  clear hi h hnum hcat
  go_enter Tryz.func64, Tryz.ntmps64
  go_wp2_with fail
  have q8 : IntKind.i64.wrap 8 = 8 := by decide
  have d0 : decide ((n : Int) < 0) = false := by simp
  go_quiet (fail)
  go_wp2_with fail
  generalize hw5 : World.drewN _ _ = w5
  have hi0 : RWin w w5 g w.heap.size a a0 #[.int .i64 1, .int .i64 n, .string s] := by rw [← hw5]; exact HI.out _
  clear hw5 c0 c1 c2 c3 HI
  have s0 := KS.out _ hi0
  obtain ⟨t0, t1, t2⟩ := s0
  refine wp_region_T (fun W => W.cell? ⟨g, 0, none⟩ = some (.string a) ∧ W.cell? ⟨w.heap.size, 0, none⟩ = some (.int .i64 1) ∧ W.cell? ⟨w.heap.size, 1, none⟩ = some (.int .i64 n)) 13 (by kernel_rfl) ?_ (fun hHeld => ?_)
  · (first | assumption | exact KS.out _ (by assumption) | exact KS.out _ (RWin.drewN (by assumption) 1))
  refine wpAnyT_take (i := 0) (oi := { dst := some 40, op := Op.move (Operand.tmp 0), type := 105, pos := _, after := _, guard := none }) (v := ?_) rfl (by kernel_rfl) (by kernel_rfl) (by kernel_rfl) (by kernel_rfl) (fun _ _ _ h => h) (Or.inl ⟨by rfl, ?_⟩) (by assumption) ?_
  rotate_left
  · (intro w hSw; (try dsimp only at hSw); go_simp; (try with_reducible rfl))
  (try simp only [Act.put, List.setIfInBounds_toArray, List.set_cons_zero, List.set_cons_succ])
  refine wpAnyT_take (i := 1) (oi := { dst := some 41, op := Op.move (Operand.tmp 0), type := 105, pos := _, after := _, guard := none }) (v := ?_) rfl (by kernel_rfl) (by kernel_rfl) (by kernel_rfl) (by kernel_rfl) (fun _ _ _ h => h) (Or.inl ⟨by rfl, ?_⟩) (by assumption) ?_
  rotate_left
  · (intro w hSw; (try dsimp only at hSw); go_simp; (try with_reducible rfl))
  (try simp only [Act.put, List.setIfInBounds_toArray, List.set_cons_zero, List.set_cons_succ])
  refine wpAnyT_take (i := 2) (oi := { dst := some 42, op := Op.nilCheck (Operand.tmp 41), type := 0, pos := _, after := _, guard := none }) (v := ?_) rfl (by kernel_rfl) (by kernel_rfl) (by kernel_rfl) (by kernel_rfl) (fun _ _ _ h => h) (Or.inl ⟨by rfl, ?_⟩) (by assumption) ?_
  rotate_left
  · (intro w hSw; (try dsimp only at hSw); go_simp; (try with_reducible rfl))
  (try simp only [Act.put, List.setIfInBounds_toArray, List.set_cons_zero, List.set_cons_succ])
  refine wpAnyT_take (i := 3) (oi := { dst := some 43, op := Op.fieldAddr 107 (Operand.tmp 42) 0, type := 0, pos := _, after := _, guard := none }) (v := ?_) rfl (by kernel_rfl) (by kernel_rfl) (by kernel_rfl) (by kernel_rfl) (fun _ _ _ h => h) (Or.inl ⟨by rfl, ?_⟩) (by assumption) ?_
  rotate_left
  · (intro w hSw; (try dsimp only at hSw); go_simp; (try with_reducible rfl))
  (try simp only [Act.put, List.setIfInBounds_toArray, List.set_cons_zero, List.set_cons_succ])
  refine wpAnyT_take (i := 4) (oi := { dst := some 44, op := Op.load 9 (Operand.tmp 43), type := 9, pos := _, after := _, guard := none }) (v := ?_) rfl (by kernel_rfl) (by kernel_rfl) (by kernel_rfl) (by kernel_rfl) (fun _ _ _ h => h) (Or.inl ⟨by rfl, ?_⟩) (by assumption) ?_
  rotate_left
  · (intro w hSw; (try dsimp only at hSw); go_simp; (try with_reducible rfl))
  (try simp only [Act.put, List.setIfInBounds_toArray, List.set_cons_zero, List.set_cons_succ])
  refine wpAnyT_take (i := 5) (oi := { dst := some 45, op := Op.fieldAddr 110 (Operand.tmp 3) 1, type := 0, pos := _, after := _, guard := none }) (v := ?_) rfl (by kernel_rfl) (by kernel_rfl) (by kernel_rfl) (by kernel_rfl) (fun _ _ _ h => h) (Or.inl ⟨by rfl, ?_⟩) (by assumption) ?_
  rotate_left
  · (intro w hSw; (try dsimp only at hSw); go_simp; (try with_reducible rfl))
  (try simp only [Act.put, List.setIfInBounds_toArray, List.set_cons_zero, List.set_cons_succ])
  refine wpAnyT_take (i := 6) (oi := { dst := some 46, op := Op.load 3 (Operand.tmp 45), type := 3, pos := _, after := _, guard := none }) (v := ?_) rfl (by kernel_rfl) (by kernel_rfl) (by kernel_rfl) (by kernel_rfl) (fun _ _ _ h => h) (Or.inl ⟨by rfl, ?_⟩) (by assumption) ?_
  rotate_left
  · (intro w hSw; (try dsimp only at hSw); go_simp; (try with_reducible rfl))
  (try simp only [Act.put, List.setIfInBounds_toArray, List.set_cons_zero, List.set_cons_succ])
  refine wpAnyT_take (i := 7) (oi := { dst := some 47, op := Op.fieldAddr 110 (Operand.tmp 3) 0, type := 0, pos := _, after := _, guard := none }) (v := ?_) rfl (by kernel_rfl) (by kernel_rfl) (by kernel_rfl) (by kernel_rfl) (fun _ _ _ h => h) (Or.inl ⟨by rfl, ?_⟩) (by assumption) ?_
  rotate_left
  · (intro w hSw; (try dsimp only at hSw); go_simp; (try with_reducible rfl))
  (try simp only [Act.put, List.setIfInBounds_toArray, List.set_cons_zero, List.set_cons_succ])
  refine wpAnyT_take (i := 8) (oi := { dst := some 48, op := Op.load 3 (Operand.tmp 47), type := 3, pos := _, after := _, guard := none }) (v := ?_) rfl (by kernel_rfl) (by kernel_rfl) (by kernel_rfl) (by kernel_rfl) (fun _ _ _ h => h) (Or.inl ⟨by rfl, ?_⟩) (by assumption) ?_
  rotate_left
  · (intro w hSw; (try dsimp only at hSw); go_simp; (try with_reducible rfl))
  (try simp only [Act.put, List.setIfInBounds_toArray, List.set_cons_zero, List.set_cons_succ])
  refine wpAnyT_one (i := 9) (o := { dst := some 49, op := Op.call { callee := Callee.value (Operand.func 89), args := #[Operand.tmp 46, Operand.tmp 48], argTypes := #[3, 3] }, type := 9, pos := _, after := _, guard := none }) (by kernel_rfl) rfl (fun K hK => ?_)
  go_simp
  refine (HC.out _ (RWin.drewN (by assumption) 1)).mono ?_
  rintro x w6 ⟨rfl, hi6⟩
  go_wp2_with fail
  refine hK.out _ _ (fun _ => ?_) (fun hH1 => ?_)
  · (first | assumption | exact KS.out _ (by assumption) | exact KS.out _ (RWin.drewN (by assumption) 1))
  have hHeld1 := hH1 (by decide)
  clear hK K hH1
  (try simp only [Act.put, List.setIfInBounds_toArray, List.set_cons_zero, List.set_cons_succ])
  refine wpAnyT_one (i := 10) (o := { dst := some 50, op := Op.binOp BinOp.add 9 (Operand.tmp 44) (Operand.tmp 49) 9, type := 9, pos := _, after := _, guard := none }) (by kernel_rfl) rfl (fun K hK => ?_)
  go_simp
  refine hK.out _ _ (fun _ => ?_) (fun hH2 => ?_)
  · (first | assumption | exact KS.out _ (by assumption) | exact KS.out _ (RWin.drewN (by assumption) 1))
  have hHeld2 := hH2 (by decide)
  clear hK K hH2
  (try simp only [Act.put, List.setIfInBounds_toArray, List.set_cons_zero, List.set_cons_succ])
  refine wpAnyT_one (i := 11) (o := { dst := some 51, op := Op.nilCheck (Operand.tmp 40), type := 0, pos := _, after := _, guard := none }) (by kernel_rfl) rfl (fun K hK => ?_)
  go_simp
  refine hK.out _ _ (fun _ => ?_) (fun hH3 => ?_)
  · (first | assumption | exact KS.out _ (by assumption) | exact KS.out _ (RWin.drewN (by assumption) 1))
  have hHeld3 := hH3 (by decide)
  clear hK K hH3
  (try simp only [Act.put, List.setIfInBounds_toArray, List.set_cons_zero, List.set_cons_succ])
  refine wpAnyT_one (i := 12) (o := { dst := some 52, op := Op.fieldAddr 107 (Operand.tmp 51) 0, type := 0, pos := _, after := _, guard := none }) (by kernel_rfl) rfl (fun K hK => ?_)
  have y0 := (KS.out _ hi6).1
  have y1 := hi6.frozen
  go_simp
  refine hK.out _ _ (fun _ => ?_) (fun hH4 => ?_)
  · (first | assumption | exact KS.out _ (by assumption) | exact KS.out _ (RWin.drewN (by assumption) 1))
  have hHeld4 := hH4 (by decide)
  clear hK K hH4
  (try simp only [Act.put, List.setIfInBounds_toArray, List.set_cons_zero, List.set_cons_succ])
  refine wpAnyT_one (i := 13) (o := { dst := none, op := Op.store 9 (Operand.tmp 52) (Operand.tmp 50), type := 0, pos := _, after := _, guard := none }) (by kernel_rfl) rfl (fun K hK => ?_)
  go_simp
  refine hK.out _ _ (fun h => absurd rfl h) (fun _ => ?_)
  clear hK K
  (try simp only [Act.put, List.setIfInBounds_toArray, List.set_cons_zero, List.set_cons_succ])
  refine wpAnyT_done (by kernel_rfl) ?_ _
  have HN := Lib.hid (HS.out w6 c HCE.out hi6)
  go_wp2_with fail
  exact bodyPost_end (v := .tuple #[]) (by simp [results, Tryz.results64, go_sem]) rfl ⟨rfl, HN.out⟩
set_option maxHeartbeats 1000000 in
theorem rwdo_2 (h : RWObj w g W) (h0 : W.no = 0) (hl : W.L.length ≤ 900000) (n : Nat) (s : ByteArray) (hn : n < 65536) :
    Calls Tryz.prog 64 #[.pointer (some ⟨g, 0, none⟩), .agg #[.int .i64 2, .int .i64 n, .string s]] w fun x w' => x = .returned (.tuple #[]) ∧ RWNext w w' g ⟨0, W.at_, W.L ++ be 2 n⟩ := by
  have hn0 : (n : Int) < 65536 := by omega
  have d1 : decide ((65536 : Int) ≤ (n : Int)) = false := by simp; omega
  obtain ⟨a0, hi⟩ := h.start h0 #[.int .i64 2, .int .i64 n, .string s]
  have hsz : (⟨W.L.toArray⟩ : ByteArray).size = W.L.length := bsize _
  have htz : (⟨(be 2 n).toArray⟩ : ByteArray).size = 2 := by rw [bsize, be_len]
  have hcat : (⟨W.L.toArray⟩ : ByteArray) ++ ⟨(be 2 n).toArray⟩ = ⟨(W.L ++ be 2 n).toArray⟩ := by
    apply ba_eq
    simp
  have hnum := fun W1 => rnum_any 2 n W1 (by omega) (by omega)
  have HS := Lib.hid (fun (W1 : World) (c : ByteArray) (hc : c = ⟨W.L.toArray⟩ ++ ⟨(be 2 n).toArray⟩) (h : RWin w W1 g w.heap.size ⟨W.L.toArray⟩ a0 #[.int .i64 2, .int .i64 n, .string s]) => RWin.stored (c := c) h (hc.trans hcat) W.at_)
  generalize (⟨W.L.toArray⟩ : ByteArray) = a at *
  generalize (⟨(be 2 n).toArray⟩ : ByteArray) = t at *
  obtain ⟨c, hrun, hce, _⟩ := cat_run a t (by omega)
  have HCE := Lib.hid hce
  clear hce
  have KS := Lib.hid (fun (W1 : World) (h : RWin w W1 g w.heap.size a a0 #[.int .i64 2, .int .i64 n, .string s]) => show W1.cell? ⟨g, 0, none⟩ = some (.string a) ∧ W1.cell? ⟨w.heap.size, 0, none⟩ = some (.int .i64 2) ∧ W1.cell? ⟨w.heap.size, 1, none⟩ = some (.int .i64 n) from ⟨h.blk.cell 0, h.box.cell 0, h.box.cell 1⟩)
  have HC := Lib.hid (fun (W1 : World) (h : RWin w W1 g w.heap.size a a0 #[.int .i64 2, .int .i64 n, .string s]) => (hnum W1).mono fun x w' hx => show x = Ending.returned (.string t) ∧ RWin w w' g w.heap.size a a0 #[.int .i64 2, .int .i64 n, .string s] from ⟨hx.1, h.below hx.2⟩)
  obtain ⟨c0, c2, c3⟩ := KS.out _ hi
  have c1 : (w.alloc (.cells #[.int .i64 2, .int .i64 n, .string s] 110)).cell? ⟨g, 1, none⟩ = some (.int .i64 0) := hi.blk.cell 1
  have HI := Lib.hid (fun d => hi.drewN d)
  have HLT := Lib.hid hn
  clear hi h hnum hcat hn hn0
  go_enter Tryz.func64, Tryz.ntmps64
  go_wp2_with fail
  have q8 : IntKind.i64.wrap 16 = 16 := by decide
  have d0 : decide ((n : Int) < 0) = false := by simp
  go_quiet (fail)
  go_wp2_with fail
  generalize hw5 : World.drewN _ _ = w5
  have hi0 : RWin w w5 g w.heap.size a a0 #[.int .i64 2, .int .i64 n, .string s] := by rw [← hw5]; exact HI.out _
  clear hw5 c0 c1 c2 c3 HI
  have s0 := KS.out _ hi0
  obtain ⟨t0, t1, t2⟩ := s0
  refine wp_region_T (fun W => W.cell? ⟨g, 0, none⟩ = some (.string a) ∧ W.cell? ⟨w.heap.size, 0, none⟩ = some (.int .i64 2) ∧ W.cell? ⟨w.heap.size, 1, none⟩ = some (.int .i64 n)) 13 (by kernel_rfl) ?_ (fun hHeld => ?_)
  · (first | assumption | exact KS.out _ (by assumption) | exact KS.out _ (RWin.drewN (by assumption) 1))
  refine wpAnyT_take (i := 0) (oi := { dst := some 40, op := Op.move (Operand.tmp 0), type := 105, pos := _, after := _, guard := none }) (v := ?_) rfl (by kernel_rfl) (by kernel_rfl) (by kernel_rfl) (by kernel_rfl) (fun _ _ _ h => h) (Or.inl ⟨by rfl, ?_⟩) (by assumption) ?_
  rotate_left
  · (intro w hSw; (try dsimp only at hSw); go_simp; (try with_reducible rfl))
  (try simp only [Act.put, List.setIfInBounds_toArray, List.set_cons_zero, List.set_cons_succ])
  refine wpAnyT_take (i := 1) (oi := { dst := some 41, op := Op.move (Operand.tmp 0), type := 105, pos := _, after := _, guard := none }) (v := ?_) rfl (by kernel_rfl) (by kernel_rfl) (by kernel_rfl) (by kernel_rfl) (fun _ _ _ h => h) (Or.inl ⟨by rfl, ?_⟩) (by assumption) ?_
  rotate_left
  · (intro w hSw; (try dsimp only at hSw); go_simp; (try with_reducible rfl))
  (try simp only [Act.put, List.setIfInBounds_toArray, List.set_cons_zero, List.set_cons_succ])
  refine wpAnyT_take (i := 2) (oi := { dst := some 42, op := Op.nilCheck (Operand.tmp 41), type := 0, pos := _, after := _, guard := none }) (v := ?_) rfl (by kernel_rfl) (by kernel_rfl) (by kernel_rfl) (by kernel_rfl) (fun _ _ _ h => h) (Or.inl ⟨by rfl, ?_⟩) (by assumption) ?_
  rotate_left
  · (intro w hSw; (try dsimp only at hSw); go_simp; (try with_reducible rfl))
  (try simp only [Act.put, List.setIfInBounds_toArray, List.set_cons_zero, List.set_cons_succ])
  refine wpAnyT_take (i := 3) (oi := { dst := some 43, op := Op.fieldAddr 107 (Operand.tmp 42) 0, type := 0, pos := _, after := _, guard := none }) (v := ?_) rfl (by kernel_rfl) (by kernel_rfl) (by kernel_rfl) (by kernel_rfl) (fun _ _ _ h => h) (Or.inl ⟨by rfl, ?_⟩) (by assumption) ?_
  rotate_left
  · (intro w hSw; (try dsimp only at hSw); go_simp; (try with_reducible rfl))
  (try simp only [Act.put, List.setIfInBounds_toArray, List.set_cons_zero, List.set_cons_succ])
  refine wpAnyT_take (i := 4) (oi := { dst := some 44, op := Op.load 9 (Operand.tmp 43), type := 9, pos := _, after := _, guard := none }) (v := ?_) rfl (by kernel_rfl) (by kernel_rfl) (by kernel_rfl) (by kernel_rfl) (fun _ _ _ h => h) (Or.inl ⟨by rfl, ?_⟩) (by assumption) ?_
  rotate_left
  · (intro w hSw; (try dsimp only at hSw); go_simp; (try with_reducible rfl))
  (try simp only [Act.put, List.setIfInBounds_toArray, List.set_cons_zero, List.set_cons_succ])
  refine wpAnyT_take (i := 5) (oi := { dst := some 45, op := Op.fieldAddr 110 (Operand.tmp 3) 1, type := 0, pos := _, after := _, guard := none }) (v := ?_) rfl (by kernel_rfl) (by kernel_rfl) (by kernel_rfl) (by kernel_rfl) (fun _ _ _ h => h) (Or.inl ⟨by rfl, ?_⟩) (by assumption) ?_
  rotate_left
  · (intro w hSw; (try dsimp only at hSw); go_simp; (try with_reducible rfl))
  (try simp only [Act.put, List.setIfInBounds_toArray, List.set_cons_zero, List.set_cons_succ])
  refine wpAnyT_take (i := 6) (oi := { dst := some 46, op := Op.load 3 (Operand.tmp 45), type := 3, pos := _, after := _, guard := none }) (v := ?_) rfl (by kernel_rfl) (by kernel_rfl) (by kernel_rfl) (by kernel_rfl) (fun _ _ _ h => h) (Or.inl ⟨by rfl, ?_⟩) (by assumption) ?_
  rotate_left
  · (intro w hSw; (try dsimp only at hSw); go_simp; (try with_reducible rfl))
  (try simp only [Act.put, List.setIfInBounds_toArray, List.set_cons_zero, List.set_cons_succ])
  refine wpAnyT_take (i := 7) (oi := { dst := some 47, op := Op.fieldAddr 110 (Operand.tmp 3) 0, type := 0, pos := _, after := _, guard := none }) (v := ?_) rfl (by kernel_rfl) (by kernel_rfl) (by kernel_rfl) (by kernel_rfl) (fun _ _ _ h => h) (Or.inl ⟨by rfl, ?_⟩) (by assumption) ?_
  rotate_left
  · (intro w hSw; (try dsimp only at hSw); go_simp; (try with_reducible rfl))
  (try simp only [Act.put, List.setIfInBounds_toArray, List.set_cons_zero, List.set_cons_succ])
  refine wpAnyT_take (i := 8) (oi := { dst := some 48, op := Op.load 3 (Operand.tmp 47), type := 3, pos := _, after := _, guard := none }) (v := ?_) rfl (by kernel_rfl) (by kernel_rfl) (by kernel_rfl) (by kernel_rfl) (fun _ _ _ h => h) (Or.inl ⟨by rfl, ?_⟩) (by assumption) ?_
  rotate_left
  · (intro w hSw; (try dsimp only at hSw); go_simp; (try with_reducible rfl))
  (try simp only [Act.put, List.setIfInBounds_toArray, List.set_cons_zero, List.set_cons_succ])
  refine wpAnyT_one (i := 9) (o := { dst := some 49, op := Op.call { callee := Callee.value (Operand.func 89), args := #[Operand.tmp 46, Operand.tmp 48], argTypes := #[3, 3] }, type := 9, pos := _, after := _, guard := none }) (by kernel_rfl) rfl (fun K hK => ?_)
  go_simp
  refine (HC.out _ (RWin.drewN (by assumption) 1)).mono ?_
  rintro x w6 ⟨rfl, hi6⟩
  go_wp2_with fail
  refine hK.out _ _ (fun _ => ?_) (fun hH1 => ?_)
  · (first | assumption | exact KS.out _ (by assumption) | exact KS.out _ (RWin.drewN (by assumption) 1))
  have hHeld1 := hH1 (by decide)
  clear hK K hH1
  (try simp only [Act.put, List.setIfInBounds_toArray, List.set_cons_zero, List.set_cons_succ])
  refine wpAnyT_one (i := 10) (o := { dst := some 50, op := Op.binOp BinOp.add 9 (Operand.tmp 44) (Operand.tmp 49) 9, type := 9, pos := _, after := _, guard := none }) (by kernel_rfl) rfl (fun K hK => ?_)
  go_simp
  refine hK.out _ _ (fun _ => ?_) (fun hH2 => ?_)
  · (first | assumption | exact KS.out _ (by assumption) | exact KS.out _ (RWin.drewN (by assumption) 1))
  have hHeld2 := hH2 (by decide)
  clear hK K hH2
  (try simp only [Act.put, List.setIfInBounds_toArray, List.set_cons_zero, List.set_cons_succ])
  refine wpAnyT_one (i := 11) (o := { dst := some 51, op := Op.nilCheck (Operand.tmp 40), type := 0, pos := _, after := _, guard := none }) (by kernel_rfl) rfl (fun K hK => ?_)
  go_simp
  refine hK.out _ _ (fun _ => ?_) (fun hH3 => ?_)
  · (first | assumption | exact KS.out _ (by assumption) | exact KS.out _ (RWin.drewN (by assumption) 1))
  have hHeld3 := hH3 (by decide)
  clear hK K hH3
  (try simp only [Act.put, List.setIfInBounds_toArray, List.set_cons_zero, List.set_cons_succ])
  refine wpAnyT_one (i := 12) (o := { dst := some 52, op := Op.fieldAddr 107 (Operand.tmp 51) 0, type := 0, pos := _, after := _, guard := none }) (by kernel_rfl) rfl (fun K hK => ?_)
  have y0 := (KS.out _ hi6).1
  have y1 := hi6.frozen
  go_simp
  refine hK.out _ _ (fun _ => ?_) (fun hH4 => ?_)
  · (first | assumption | exact KS.out _ (by assumption) | exact KS.out _ (RWin.drewN (by assumption) 1))
  have hHeld4 := hH4 (by decide)
  clear hK K hH4
  (try simp only [Act.put, List.setIfInBounds_toArray, List.set_cons_zero, List.set_cons_succ])
  refine wpAnyT_one (i := 13) (o := { dst := none, op := Op.store 9 (Operand.tmp 52) (Operand.tmp 50), type := 0, pos := _, after := _, guard := none }) (by kernel_rfl) rfl (fun K hK => ?_)
  go_simp
  refine hK.out _ _ (fun h => absurd rfl h) (fun _ => ?_)
  clear hK K
  (try simp only [Act.put, List.setIfInBounds_toArray, List.set_cons_zero, List.set_cons_succ])
  refine wpAnyT_done (by kernel_rfl) ?_ _
  have HN := Lib.hid (HS.out w6 c HCE.out hi6)
  go_wp2_with fail
  exact bodyPost_end (v := .tuple #[]) (by simp [results, Tryz.results64, go_sem]) rfl ⟨rfl, HN.out⟩
set_option maxHeartbeats 1000000 in
theorem rwdo_4 (h : RWObj w g W) (h0 : W.no = 0) (hl : W.L.length ≤ 900000) (n : Nat) (s : ByteArray) (hn : n < 4294967296) :
    Calls Tryz.prog 64 #[.pointer (some ⟨g, 0, none⟩), .agg #[.int .i64 4, .int .i64 n, .string s]] w fun x w' => x = .returned (.tuple #[]) ∧ RWNext w w' g ⟨0, W.at_, W.L ++ be 4 n⟩ := by
  have hn0 : (n : Int) < 4294967296 := by omega
  have d1 : decide ((4294967296 : Int) ≤ (n : Int)) = false := by simp; omega
  obtain ⟨a0, hi⟩ := h.start h0 #[.int .i64 4, .int .i64 n, .string s]
  have hsz : (⟨W.L.toArray⟩ : ByteArray).size = W.L.length := bsize _
  have htz : (⟨(be 4 n).toArray⟩ : ByteArray).size = 4 := by rw [bsize, be_len]
  have hcat : (⟨W.L.toArray⟩ : ByteArray) ++ ⟨(be 4 n).toArray⟩ = ⟨(W.L ++ be 4 n).toArray⟩ := by
    apply ba_eq
    simp
  have hnum := fun W1 => rnum_any 4 n W1 (by omega) (by omega)
  have HS := Lib.hid (fun (W1 : World) (c : ByteArray) (hc : c = ⟨W.L.toArray⟩ ++ ⟨(be 4 n).toArray⟩) (h : RWin w W1 g w.heap.size ⟨W.L.toArray⟩ a0 #[.int .i64 4, .int .i64 n, .string s]) => RWin.stored (c := c) h (hc.trans hcat) W.at_)
  generalize (⟨W.L.toArray⟩ : ByteArray) = a at *
  generalize (⟨(be 4 n).toArray⟩ : ByteArray) = t at *
  obtain ⟨c, hrun, hce, _⟩ := cat_run a t (by omega)
  have HCE := Lib.hid hce
  clear hce
  have KS := Lib.hid (fun (W1 : World) (h : RWin w W1 g w.heap.size a a0 #[.int .i64 4, .int .i64 n, .string s]) => show W1.cell? ⟨g, 0, none⟩ = some (.string a) ∧ W1.cell? ⟨w.heap.size, 0, none⟩ = some (.int .i64 4) ∧ W1.cell? ⟨w.heap.size, 1, none⟩ = some (.int .i64 n) from ⟨h.blk.cell 0, h.box.cell 0, h.box.cell 1⟩)
  have HC := Lib.hid (fun (W1 : World) (h : RWin w W1 g w.heap.size a a0 #[.int .i64 4, .int .i64 n, .string s]) => (hnum W1).mono fun x w' hx => show x = Ending.returned (.string t) ∧ RWin w w' g w.heap.size a a0 #[.int .i64 4, .int .i64 n, .string s] from ⟨hx.1, h.below hx.2⟩)
  obtain ⟨c0, c2, c3⟩ := KS.out _ hi
  have c1 : (w.alloc (.cells #[.int .i64 4, .int .i64 n, .string s] 110)).cell? ⟨g, 1, none⟩ = some (.int .i64 0) := hi.blk.cell 1
  have HI := Lib.hid (fun d => hi.drewN d)
  have HLT := Lib.hid hn
  clear hi h hnum hcat hn hn0
  go_enter Tryz.func64, Tryz.ntmps64
  go_wp2_with fail
  have q8 : IntKind.i64.wrap 32 = 32 := by decide
  have d0 : decide ((n : Int) < 0) = false := by simp
  go_quiet (fail)
  go_wp2_with fail
  generalize hw5 : World.drewN _ _ = w5
  have hi0 : RWin w w5 g w.heap.size a a0 #[.int .i64 4, .int .i64 n, .string s] := by rw [← hw5]; exact HI.out _
  clear hw5 c0 c1 c2 c3 HI
  have s0 := KS.out _ hi0
  obtain ⟨t0, t1, t2⟩ := s0
  refine wp_region_T (fun W => W.cell? ⟨g, 0, none⟩ = some (.string a) ∧ W.cell? ⟨w.heap.size, 0, none⟩ = some (.int .i64 4) ∧ W.cell? ⟨w.heap.size, 1, none⟩ = some (.int .i64 n)) 13 (by kernel_rfl) ?_ (fun hHeld => ?_)
  · (first | assumption | exact KS.out _ (by assumption) | exact KS.out _ (RWin.drewN (by assumption) 1))
  refine wpAnyT_take (i := 0) (oi := { dst := some 40, op := Op.move (Operand.tmp 0), type := 105, pos := _, after := _, guard := none }) (v := ?_) rfl (by kernel_rfl) (by kernel_rfl) (by kernel_rfl) (by kernel_rfl) (fun _ _ _ h => h) (Or.inl ⟨by rfl, ?_⟩) (by assumption) ?_
  rotate_left
  · (intro w hSw; (try dsimp only at hSw); go_simp; (try with_reducible rfl))
  (try simp only [Act.put, List.setIfInBounds_toArray, List.set_cons_zero, List.set_cons_succ])
  refine wpAnyT_take (i := 1) (oi := { dst := some 41, op := Op.move (Operand.tmp 0), type := 105, pos := _, after := _, guard := none }) (v := ?_) rfl (by kernel_rfl) (by kernel_rfl) (by kernel_rfl) (by kernel_rfl) (fun _ _ _ h => h) (Or.inl ⟨by rfl, ?_⟩) (by assumption) ?_
  rotate_left
  · (intro w hSw; (try dsimp only at hSw); go_simp; (try with_reducible rfl))
  (try simp only [Act.put, List.setIfInBounds_toArray, List.set_cons_zero, List.set_cons_succ])
  refine wpAnyT_take (i := 2) (oi := { dst := some 42, op := Op.nilCheck (Operand.tmp 41), type := 0, pos := _, after := _, guard := none }) (v := ?_) rfl (by kernel_rfl) (by kernel_rfl) (by kernel_rfl) (by kernel_rfl) (fun _ _ _ h => h) (Or.inl ⟨by rfl, ?_⟩) (by assumption) ?_
  rotate_left
  · (intro w hSw; (try dsimp only at hSw); go_simp; (try with_reducible rfl))
  (try simp only [Act.put, List.setIfInBounds_toArray, List.set_cons_zero, List.set_cons_succ])
  refine wpAnyT_take (i := 3) (oi := { dst := some 43, op := Op.fieldAddr 107 (Operand.tmp 42) 0, type := 0, pos := _, after := _, guard := none }) (v := ?_) rfl (by kernel_rfl) (by kernel_rfl) (by kernel_rfl) (by kernel_rfl) (fun _ _ _ h => h) (Or.inl ⟨by rfl, ?_⟩) (by assumption) ?_
  rotate_left
  · (intro w hSw; (try dsimp only at hSw); go_simp; (try with_reducible rfl))
  (try simp only [Act.put, List.setIfInBounds_toArray, List.set_cons_zero, List.set_cons_succ])
  refine wpAnyT_take (i := 4) (oi := { dst := some 44, op := Op.load 9 (Operand.tmp 43), type := 9, pos := _, after := _, guard := none }) (v := ?_) rfl (by kernel_rfl) (by kernel_rfl) (by kernel_rfl) (by kernel_rfl) (fun _ _ _ h => h) (Or.inl ⟨by rfl, ?_⟩) (by assumption) ?_
  rotate_left
  · (intro w hSw; (try dsimp only at hSw); go_simp; (try with_reducible rfl))
  (try simp only [Act.put, List.setIfInBounds_toArray, List.set_cons_zero, List.set_cons_succ])
  refine wpAnyT_take (i := 5) (oi := { dst := some 45, op := Op.fieldAddr 110 (Operand.tmp 3) 1, type := 0, pos := _, after := _, guard := none }) (v := ?_) rfl (by kernel_rfl) (by kernel_rfl) (by kernel_rfl) (by kernel_rfl) (fun _ _ _ h => h) (Or.inl ⟨by rfl, ?_⟩) (by assumption) ?_
  rotate_left
  · (intro w hSw; (try dsimp only at hSw); go_simp; (try with_reducible rfl))
  (try simp only [Act.put, List.setIfInBounds_toArray, List.set_cons_zero, List.set_cons_succ])
  refine wpAnyT_take (i := 6) (oi := { dst := some 46, op := Op.load 3 (Operand.tmp 45), type := 3, pos := _, after := _, guard := none }) (v := ?_) rfl (by kernel_rfl) (by kernel_rfl) (by kernel_rfl) (by kernel_rfl) (fun _ _ _ h => h) (Or.inl ⟨by rfl, ?_⟩) (by assumption) ?_
  rotate_left
  · (intro w hSw; (try dsimp only at hSw); go_simp; (try with_reducible rfl))
  (try simp only [Act.put, List.setIfInBounds_toArray, List.set_cons_zero, List.set_cons_succ])
  refine wpAnyT_take (i := 7) (oi := { dst := some 47, op := Op.fieldAddr 110 (Operand.tmp 3) 0, type := 0, pos := _, after := _, guard := none }) (v := ?_) rfl (by kernel_rfl) (by kernel_rfl) (by kernel_rfl) (by kernel_rfl) (fun _ _ _ h => h) (Or.inl ⟨by rfl, ?_⟩) (by assumption) ?_
  rotate_left
  · (intro w hSw; (try dsimp only at hSw); go_simp; (try with_reducible rfl))
  (try simp only [Act.put, List.setIfInBounds_toArray, List.set_cons_zero, List.set_cons_succ])
  refine wpAnyT_take (i := 8) (oi := { dst := some 48, op := Op.load 3 (Operand.tmp 47), type := 3, pos := _, after := _, guard := none }) (v := ?_) rfl (by kernel_rfl) (by kernel_rfl) (by kernel_rfl) (by kernel_rfl) (fun _ _ _ h => h) (Or.inl ⟨by rfl, ?_⟩) (by assumption) ?_
  rotate_left
  · (intro w hSw; (try dsimp only at hSw); go_simp; (try with_reducible rfl))
  (try simp only [Act.put, List.setIfInBounds_toArray, List.set_cons_zero, List.set_cons_succ])
  refine wpAnyT_one (i := 9) (o := { dst := some 49, op := Op.call { callee := Callee.value (Operand.func 89), args := #[Operand.tmp 46, Operand.tmp 48], argTypes := #[3, 3] }, type := 9, pos := _, after := _, guard := none }) (by kernel_rfl) rfl (fun K hK => ?_)
  go_simp
  refine (HC.out _ (RWin.drewN (by assumption) 1)).mono ?_
  rintro x w6 ⟨rfl, hi6⟩
  go_wp2_with fail
  refine hK.out _ _ (fun _ => ?_) (fun hH1 => ?_)
  · (first | assumption | exact KS.out _ (by assumption) | exact KS.out _ (RWin.drewN (by assumption) 1))
  have hHeld1 := hH1 (by decide)
  clear hK K hH1
  (try simp only [Act.put, List.setIfInBounds_toArray, List.set_cons_zero, List.set_cons_succ])
  refine wpAnyT_one (i := 10) (o := { dst := some 50, op := Op.binOp BinOp.add 9 (Operand.tmp 44) (Operand.tmp 49) 9, type := 9, pos := _, after := _, guard := none }) (by kernel_rfl) rfl (fun K hK => ?_)
  go_simp
  refine hK.out _ _ (fun _ => ?_) (fun hH2 => ?_)
  · (first | assumption | exact KS.out _ (by assumption) | exact KS.out _ (RWin.drewN (by assumption) 1))
  have hHeld2 := hH2 (by decide)
  clear hK K hH2
  (try simp only [Act.put, List.setIfInBounds_toArray, List.set_cons_zero, List.set_cons_succ])
  refine wpAnyT_one (i := 11) (o := { dst := some 51, op := Op.nilCheck (Operand.tmp 40), type := 0, pos := _, after := _, guard := none }) (by kernel_rfl) rfl (fun K hK => ?_)
  go_simp
  refine hK.out _ _ (fun _ => ?_) (fun hH3 => ?_)
  · (first | assumption | exact KS.out _ (by assumption) | exact KS.out _ (RWin.drewN (by assumption) 1))
  have hHeld3 := hH3 (by decide)
  clear hK K hH3
  (try simp only [Act.put, List.setIfInBounds_toArray, List.set_cons_zero, List.set_cons_succ])
  refine wpAnyT_one (i := 12) (o := { dst := some 52, op := Op.fieldAddr 107 (Operand.tmp 51) 0, type := 0, pos := _, after := _, guard := none }) (by kernel_rfl) rfl (fun K hK => ?_)
  have y0 := (KS.out _ hi6).1
  have y1 := hi6.frozen
  go_simp
  refine hK.out _ _ (fun _ => ?_) (fun hH4 => ?_)
  · (first | assumption | exact KS.out _ (by assumption) | exact KS.out _ (RWin.drewN (by assumption) 1))
  have hHeld4 := hH4 (by decide)
  clear hK K hH4
  (try simp only [Act.put, List.setIfInBounds_toArray, List.set_cons_zero, List.set_cons_succ])
  refine wpAnyT_one (i := 13) (o := { dst := none, op := Op.store 9 (Operand.tmp 52) (Operand.tmp 50), type := 0, pos := _, after := _, guard := none }) (by kernel_rfl) rfl (fun K hK => ?_)
  go_simp
  refine hK.out _ _ (fun h => absurd rfl h) (fun _ => ?_)
  clear hK K
  (try simp only [Act.put, List.setIfInBounds_toArray, List.set_cons_zero, List.set_cons_succ])
  refine wpAnyT_done (by kernel_rfl) ?_ _
  have HN := Lib.hid (HS.out w6 c HCE.out hi6)
  go_wp2_with fail
  exact bodyPost_end (v := .tuple #[]) (by simp [results, Tryz.results64, go_sem]) rfl ⟨rfl, HN.out⟩
set_option maxHeartbeats 1000000 in
theorem rwbad_1n (h : RWObj w g W) (h0 : W.no = 0) (n : Int) (s : ByteArray) (hn : n < 0) :
    Calls Tryz.prog 64 #[.pointer (some ⟨g, 0, none⟩), .agg #[.int .i64 1, .int .i64 n, .string s]] w fun x w' => x = .returned (.tuple #[]) ∧ RWNext w w' g ⟨4, W.L.length, []⟩ := by
  obtain ⟨a0, hi⟩ := h.start h0 #[.int .i64 1, .int .i64 n, .string s]
  have hsz : (⟨W.L.toArray⟩ : ByteArray).size = W.L.length := bsize _
  have KS := Lib.hid (fun (W1 : World) (h : RWin w W1 g w.heap.size ⟨W.L.toArray⟩ a0 #[.int .i64 1, .int .i64 n, .string s]) => show W1.cell? ⟨g, 0, none⟩ = some (.string ⟨W.L.toArray⟩) ∧ W1.cell? ⟨w.heap.size, 0, none⟩ = some (.int .i64 1) ∧ W1.cell? ⟨w.heap.size, 1, none⟩ = some (.int .i64 n) ∧ W1.cell? ⟨w.heap.size, 2, none⟩ = some (.string s) ∧ W1.frozen? ⟨g, 0, none⟩ = false from ⟨h.blk.cell 0, h.box.cell 0, h.box.cell 1, h.box.cell 2, h.blk.frozen 0⟩)
  obtain ⟨c0, c2, c3, c4, c5⟩ := KS.out _ hi
  have c1 : (w.alloc (.cells #[.int .i64 1, .int .i64 n, .string s] 110)).cell? ⟨g, 1, none⟩ = some (.int .i64 0) := hi.blk.cell 1
  have HI := Lib.hid hi
  clear hi h
  go_enter Tryz.func64, Tryz.ntmps64
  go_wp2_with fail
  have q8 : IntKind.i64.wrap 8 = 8 := by decide
  have d0 : decide (n < 0) = true := by simpa using hn
  go_quiet (fail)
  generalize hw5 : World.drewN _ _ = w5
  have hi5 : RWin w w5 g w.heap.size ⟨W.L.toArray⟩ a0 #[.int .i64 1, .int .i64 n, .string s] := by rw [← hw5]; exact HI.out.drewN _
  have HX := Lib.hid (show RWObj w5 g W from ⟨W.L, a0, by rw [h0]; exact hi5.blk, fun _ => rfl, fun h => absurd h0 h⟩)
  have HP := Lib.hid hi5.bel
  clear hw5 hi5 c0 c1 c2 c3 c4 c5 HI KS
  go_wp2_with fail
  refine (rwfail_any HX.out 4 W.L.length (by omega) []).mono ?_
  rintro x w6 ⟨rfl, hN⟩
  have HN := Lib.hid (hN.pre HP.out)
  clear hN
  go_wp2
  exact bodyPost_ret (v := .tuple #[]) (by simp [results, Tryz.results64, go_sem]) rfl ⟨rfl, HN.out⟩
set_option maxHeartbeats 1000000 in
theorem rwbad_1p (h : RWObj w g W) (h0 : W.no = 0) (n : Nat) (s : ByteArray) (hn : 256 ≤ n) :
    Calls Tryz.prog 64 #[.pointer (some ⟨g, 0, none⟩), .agg #[.int .i64 1, .int .i64 n, .string s]] w fun x w' => x = .returned (.tuple #[]) ∧ RWNext w w' g ⟨4, W.L.length, []⟩ := by
  obtain ⟨a0, hi⟩ := h.start h0 #[.int .i64 1, .int .i64 n, .string s]
  have hsz : (⟨W.L.toArray⟩ : ByteArray).size = W.L.length := bsize _
  have KS := Lib.hid (fun (W1 : World) (h : RWin w W1 g w.heap.size ⟨W.L.toArray⟩ a0 #[.int .i64 1, .int .i64 n, .string s]) => show W1.cell? ⟨g, 0, none⟩ = some (.string ⟨W.L.toArray⟩) ∧ W1.cell? ⟨w.heap.size, 0, none⟩ = some (.int .i64 1) ∧ W1.cell? ⟨w.heap.size, 1, none⟩ = some (.int .i64 n) ∧ W1.cell? ⟨w.heap.size, 2, none⟩ = some (.string s) ∧ W1.frozen? ⟨g, 0, none⟩ = false from ⟨h.blk.cell 0, h.box.cell 0, h.box.cell 1, h.box.cell 2, h.blk.frozen 0⟩)
  obtain ⟨c0, c2, c3, c4, c5⟩ := KS.out _ hi
  have c1 : (w.alloc (.cells #[.int .i64 1, .int .i64 n, .string s] 110)).cell? ⟨g, 1, none⟩ = some (.int .i64 0) := hi.blk.cell 1
  have HI := Lib.hid hi
  clear hi h
  go_enter Tryz.func64, Tryz.ntmps64
  go_wp2_with fail
  have q8 : IntKind.i64.wrap 8 = 8 := by decide
  have d0 : decide ((n : Int) < 0) = false := by simp
  have d1 : decide ((256 : Int) ≤ (n : Int)) = true := by simp; omega
  go_quiet (fail)
  generalize hw5 : World.drewN _ _ = w5
  have hi5 : RWin w w5 g w.heap.size ⟨W.L.toArray⟩ a0 #[.int .i64 1, .int .i64 n, .string s] := by rw [← hw5]; exact HI.out.drewN _
  have HX := Lib.hid (show RWObj w5 g W from ⟨W.L, a0, by rw [h0]; exact hi5.blk, fun _ => rfl, fun h => absurd h0 h⟩)
  have HP := Lib.hid hi5.bel
  clear hw5 hi5 c0 c1 c2 c3 c4 c5 HI KS
  go_wp2_with fail
  refine (rwfail_any HX.out 4 W.L.length (by omega) []).mono ?_
  rintro x w6 ⟨rfl, hN⟩
  have HN := Lib.hid (hN.pre HP.out)
  clear hN
  go_wp2
  exact bodyPost_ret (v := .tuple #[]) (by simp [results, Tryz.results64, go_sem]) rfl ⟨rfl, HN.out⟩
set_option maxHeartbeats 1000000 in
theorem rwbad_2n (h : RWObj w g W) (h0 : W.no = 0) (n : Int) (s : ByteArray) (hn : n < 0) :
    Calls Tryz.prog 64 #[.pointer (some ⟨g, 0, none⟩), .agg #[.int .i64 2, .int .i64 n, .string s]] w fun x w' => x = .returned (.tuple #[]) ∧ RWNext w w' g ⟨4, W.L.length, []⟩ := by
  obtain ⟨a0, hi⟩ := h.start h0 #[.int .i64 2, .int .i64 n, .string s]
  have hsz : (⟨W.L.toArray⟩ : ByteArray).size = W.L.length := bsize _
  have KS := Lib.hid (fun (W1 : World) (h : RWin w W1 g w.heap.size ⟨W.L.toArray⟩ a0 #[.int .i64 2, .int .i64 n, .string s]) => show W1.cell? ⟨g, 0, none⟩ = some (.string ⟨W.L.toArray⟩) ∧ W1.cell? ⟨w.heap.size, 0, none⟩ = some (.int .i64 2) ∧ W1.cell? ⟨w.heap.size, 1, none⟩ = some (.int .i64 n) ∧ W1.cell? ⟨w.heap.size, 2, none⟩ = some (.string s) ∧ W1.frozen? ⟨g, 0, none⟩ = false from ⟨h.blk.cell 0, h.box.cell 0, h.box.cell 1, h.box.cell 2, h.blk.frozen 0⟩)
  obtain ⟨c0, c2, c3, c4, c5⟩ := KS.out _ hi
  have c1 : (w.alloc (.cells #[.int .i64 2, .int .i64 n, .string s] 110)).cell? ⟨g, 1, none⟩ = some (.int .i64 0) := hi.blk.cell 1
  have HI := Lib.hid hi
  clear hi h
  go_enter Tryz.func64, Tryz.ntmps64
  go_wp2_with fail
  have q8 : IntKind.i64.wrap 16 = 16 := by decide
  have d0 : decide (n < 0) = true := by simpa using hn
  go_quiet (fail)
  generalize hw5 : World.drewN _ _ = w5
  have hi5 : RWin w w5 g w.heap.size ⟨W.L.toArray⟩ a0 #[.int .i64 2, .int .i64 n, .string s] := by rw [← hw5]; exact HI.out.drewN _
  have HX := Lib.hid (show RWObj w5 g W from ⟨W.L, a0, by rw [h0]; exact hi5.blk, fun _ => rfl, fun h => absurd h0 h⟩)
  have HP := Lib.hid hi5.bel
  clear hw5 hi5 c0 c1 c2 c3 c4 c5 HI KS
  go_wp2_with fail
  refine (rwfail_any HX.out 4 W.L.length (by omega) []).mono ?_
  rintro x w6 ⟨rfl, hN⟩
  have HN := Lib.hid (hN.pre HP.out)
  clear hN
  go_wp2
  exact bodyPost_ret (v := .tuple #[]) (by simp [results, Tryz.results64, go_sem]) rfl ⟨rfl, HN.out⟩
set_option maxHeartbeats 1000000 in
theorem rwbad_2p (h : RWObj w g W) (h0 : W.no = 0) (n : Nat) (s : ByteArray) (hn : 65536 ≤ n) :
    Calls Tryz.prog 64 #[.pointer (some ⟨g, 0, none⟩), .agg #[.int .i64 2, .int .i64 n, .string s]] w fun x w' => x = .returned (.tuple #[]) ∧ RWNext w w' g ⟨4, W.L.length, []⟩ := by
  obtain ⟨a0, hi⟩ := h.start h0 #[.int .i64 2, .int .i64 n, .string s]
  have hsz : (⟨W.L.toArray⟩ : ByteArray).size = W.L.length := bsize _
  have KS := Lib.hid (fun (W1 : World) (h : RWin w W1 g w.heap.size ⟨W.L.toArray⟩ a0 #[.int .i64 2, .int .i64 n, .string s]) => show W1.cell? ⟨g, 0, none⟩ = some (.string ⟨W.L.toArray⟩) ∧ W1.cell? ⟨w.heap.size, 0, none⟩ = some (.int .i64 2) ∧ W1.cell? ⟨w.heap.size, 1, none⟩ = some (.int .i64 n) ∧ W1.cell? ⟨w.heap.size, 2, none⟩ = some (.string s) ∧ W1.frozen? ⟨g, 0, none⟩ = false from ⟨h.blk.cell 0, h.box.cell 0, h.box.cell 1, h.box.cell 2, h.blk.frozen 0⟩)
  obtain ⟨c0, c2, c3, c4, c5⟩ := KS.out _ hi
  have c1 : (w.alloc (.cells #[.int .i64 2, .int .i64 n, .string s] 110)).cell? ⟨g, 1, none⟩ = some (.int .i64 0) := hi.blk.cell 1
  have HI := Lib.hid hi
  clear hi h
  go_enter Tryz.func64, Tryz.ntmps64
  go_wp2_with fail
  have q8 : IntKind.i64.wrap 16 = 16 := by decide
  have d0 : decide ((n : Int) < 0) = false := by simp
  have d1 : decide ((65536 : Int) ≤ (n : Int)) = true := by simp; omega
  go_quiet (fail)
  generalize hw5 : World.drewN _ _ = w5
  have hi5 : RWin w w5 g w.heap.size ⟨W.L.toArray⟩ a0 #[.int .i64 2, .int .i64 n, .string s] := by rw [← hw5]; exact HI.out.drewN _
  have HX := Lib.hid (show RWObj w5 g W from ⟨W.L, a0, by rw [h0]; exact hi5.blk, fun _ => rfl, fun h => absurd h0 h⟩)
  have HP := Lib.hid hi5.bel
  clear hw5 hi5 c0 c1 c2 c3 c4 c5 HI KS
  go_wp2_with fail
  refine (rwfail_any HX.out 4 W.L.length (by omega) []).mono ?_
  rintro x w6 ⟨rfl, hN⟩
  have HN := Lib.hid (hN.pre HP.out)
  clear hN
  go_wp2
  exact bodyPost_ret (v := .tuple #[]) (by simp [results, Tryz.results64, go_sem]) rfl ⟨rfl, HN.out⟩
set_option maxHeartbeats 1000000 in
theorem rwbad_4n (h : RWObj w g W) (h0 : W.no = 0) (n : Int) (s : ByteArray) (hn : n < 0) :
    Calls Tryz.prog 64 #[.pointer (some ⟨g, 0, none⟩), .agg #[.int .i64 4, .int .i64 n, .string s]] w fun x w' => x = .returned (.tuple #[]) ∧ RWNext w w' g ⟨4, W.L.length, []⟩ := by
  obtain ⟨a0, hi⟩ := h.start h0 #[.int .i64 4, .int .i64 n, .string s]
  have hsz : (⟨W.L.toArray⟩ : ByteArray).size = W.L.length := bsize _
  have KS := Lib.hid (fun (W1 : World) (h : RWin w W1 g w.heap.size ⟨W.L.toArray⟩ a0 #[.int .i64 4, .int .i64 n, .string s]) => show W1.cell? ⟨g, 0, none⟩ = some (.string ⟨W.L.toArray⟩) ∧ W1.cell? ⟨w.heap.size, 0, none⟩ = some (.int .i64 4) ∧ W1.cell? ⟨w.heap.size, 1, none⟩ = some (.int .i64 n) ∧ W1.cell? ⟨w.heap.size, 2, none⟩ = some (.string s) ∧ W1.frozen? ⟨g, 0, none⟩ = false from ⟨h.blk.cell 0, h.box.cell 0, h.box.cell 1, h.box.cell 2, h.blk.frozen 0⟩)
  obtain ⟨c0, c2, c3, c4, c5⟩ := KS.out _ hi
  have c1 : (w.alloc (.cells #[.int .i64 4, .int .i64 n, .string s] 110)).cell? ⟨g, 1, none⟩ = some (.int .i64 0) := hi.blk.cell 1
  have HI := Lib.hid hi
  clear hi h
  go_enter Tryz.func64, Tryz.ntmps64
  go_wp2_with fail
  have q8 : IntKind.i64.wrap 32 = 32 := by decide
  have d0 : decide (n < 0) = true := by simpa using hn
  go_quiet (fail)
  generalize hw5 : World.drewN _ _ = w5
  have hi5 : RWin w w5 g w.heap.size ⟨W.L.toArray⟩ a0 #[.int .i64 4, .int .i64 n, .string s] := by rw [← hw5]; exact HI.out.drewN _
  have HX := Lib.hid (show RWObj w5 g W from ⟨W.L, a0, by rw [h0]; exact hi5.blk, fun _ => rfl, fun h => absurd h0 h⟩)
  have HP := Lib.hid hi5.bel
  clear hw5 hi5 c0 c1 c2 c3 c4 c5 HI KS
  go_wp2_with fail
  refine (rwfail_any HX.out 4 W.L.length (by omega) []).mono ?_
  rintro x w6 ⟨rfl, hN⟩
  have HN := Lib.hid (hN.pre HP.out)
  clear hN
  go_wp2
  exact bodyPost_ret (v := .tuple #[]) (by simp [results, Tryz.results64, go_sem]) rfl ⟨rfl, HN.out⟩
set_option maxHeartbeats 1000000 in
theorem rwbad_4p (h : RWObj w g W) (h0 : W.no = 0) (n : Nat) (s : ByteArray) (hn : 4294967296 ≤ n) :
    Calls Tryz.prog 64 #[.pointer (some ⟨g, 0, none⟩), .agg #[.int .i64 4, .int .i64 n, .string s]] w fun x w' => x = .returned (.tuple #[]) ∧ RWNext w w' g ⟨4, W.L.length, []⟩ := by
  obtain ⟨a0, hi⟩ := h.start h0 #[.int .i64 4, .int .i64 n, .string s]
  have hsz : (⟨W.L.toArray⟩ : ByteArray).size = W.L.length := bsize _
  have KS := Lib.hid (fun (W1 : World) (h : RWin w W1 g w.heap.size ⟨W.L.toArray⟩ a0 #[.int .i64 4, .int .i64 n, .string s]) => show W1.cell? ⟨g, 0, none⟩ = some (.string ⟨W.L.toArray⟩) ∧ W1.cell? ⟨w.heap.size, 0, none⟩ = some (.int .i64 4) ∧ W1.cell? ⟨w.heap.size, 1, none⟩ = some (.int .i64 n) ∧ W1.cell? ⟨w.heap.size, 2, none⟩ = some (.string s) ∧ W1.frozen? ⟨g, 0, none⟩ = false from ⟨h.blk.cell 0, h.box.cell 0, h.box.cell 1, h.box.cell 2, h.blk.frozen 0⟩)
  obtain ⟨c0, c2, c3, c4, c5⟩ := KS.out _ hi
  have c1 : (w.alloc (.cells #[.int .i64 4, .int .i64 n, .string s] 110)).cell? ⟨g, 1, none⟩ = some (.int .i64 0) := hi.blk.cell 1
  have HI := Lib.hid hi
  clear hi h
  go_enter Tryz.func64, Tryz.ntmps64
  go_wp2_with fail
  have q8 : IntKind.i64.wrap 32 = 32 := by decide
  have d0 : decide ((n : Int) < 0) = false := by simp
  have d1 : decide ((4294967296 : Int) ≤ (n : Int)) = true := by simp; omega
  go_quiet (fail)
  generalize hw5 : World.drewN _ _ = w5
  have hi5 : RWin w w5 g w.heap.size ⟨W.L.toArray⟩ a0 #[.int .i64 4, .int .i64 n, .string s] := by rw [← hw5]; exact HI.out.drewN _
  have HX := Lib.hid (show RWObj w5 g W from ⟨W.L, a0, by rw [h0]; exact hi5.blk, fun _ => rfl, fun h => absurd h0 h⟩)
  have HP := Lib.hid hi5.bel
  clear hw5 hi5 c0 c1 c2 c3 c4 c5 HI KS
  go_wp2_with fail
  refine (rwfail_any HX.out 4 W.L.length (by omega) []).mono ?_
  rintro x w6 ⟨rfl, hN⟩
  have HN := Lib.hid (hN.pre HP.out)
  clear hN
  go_wp2
  exact bodyPost_ret (v := .tuple #[]) (by simp [results, Tryz.results64, go_sem]) rfl ⟨rfl, HN.out⟩
theorem rwdo_stuck (h : RWObj w g W) (h0 : W.no ≠ 0) (k n : Int) (s : ByteArray) :
    Calls Tryz.prog 64 #[.pointer (some ⟨g, 0, none⟩), .agg #[.int .i64 k, .int .i64 n, .string s]] w fun x w' => x = .returned (.tuple #[]) ∧ RWNext w w' g W := by
  have hb0 : Below w.heap.size w (w.alloc (.cells #[.int .i64 k, .int .i64 n, .string s] 110)) := (Below.refl _ _).alloc (Nat.le_refl _) _
  have HN := Lib.hid (h.step hb0)
  obtain ⟨l, a0, hb, _⟩ := h.below hb0
  have c1 := hb.cell 1
  have z0 : ((W.no : Int) == 0) = false := beq_eq_false_iff_ne.2 (by omega)
  clear h hb hb0
  go_enter Tryz.func64, Tryz.ntmps64
  go_wp2
  exact bodyPost_ret (v := .tuple #[]) (by simp [results, Tryz.results64, go_sem]) rfl ⟨rfl, HN.out⟩
theorem rtext_any (s : ByteArray) (w : World) (hs : s.size ≤ 65535) :
    Calls Tryz.prog 92 #[.string s] w fun x w' => x = .returned (.string ⟨(binE s).L.toArray⟩) ∧ Below w.heap.size w w' := by
  have hcat : (⟨(be 2 s.size).toArray⟩ : ByteArray) ++ s = ⟨(binE s).L.toArray⟩ := by
    apply ba_eq
    simp [binE]
  have hnum := fun W1 => rnum_any 2 s.size W1 (by omega) (by omega)
  have htz : (⟨(be 2 s.size).toArray⟩ : ByteArray).size = 2 := by rw [bsize, be_len]
  generalize (⟨(be 2 s.size).toArray⟩ : ByteArray) = t at *
  obtain ⟨c, hrun, hce, _⟩ := cat_run t s (by omega)
  rw [← hcat, ← hce]
  have HN := Lib.hid hnum
  clear hnum hcat hce htz
  go_enter Tryz.func92, Tryz.ntmps92
  go_wp2_with fail
  refine (HN.out _).mono ?_
  rintro x w1 ⟨rfl, hb⟩
  go_wp2
  go_ret
  exact ⟨rfl, hb⟩
set_option maxHeartbeats 1000000 in
theorem rwdo_8 (h : RWObj w g W) (h0 : W.no = 0) (hl : W.L.length ≤ 900000) (n : Int) (s : ByteArray) (hs : s.size ≤ 65535) :
    Calls Tryz.prog 64 #[.pointer (some ⟨g, 0, none⟩), .agg #[.int .i64 8, .int .i64 n, .string s]] w fun x w' => x = .returned (.tuple #[]) ∧ RWNext w w' g ⟨0, W.at_, W.L ++ s.data.toList⟩ := by
  obtain ⟨a0, hi⟩ := h.start h0 #[.int .i64 8, .int .i64 n, .string s]
  have hsz : (⟨W.L.toArray⟩ : ByteArray).size = W.L.length := bsize _
  have hcat : (⟨W.L.toArray⟩ : ByteArray) ++ s = ⟨(W.L ++ s.data.toList).toArray⟩ := by
    apply ba_eq
    simp
  have HS := Lib.hid (fun (W1 : World) (c : ByteArray) (hc : c = ⟨W.L.toArray⟩ ++ s) (h : RWin w W1 g w.heap.size ⟨W.L.toArray⟩ a0 #[.int .i64 8, .int .i64 n, .string s]) => RWin.stored (c := c) h (hc.trans hcat) W.at_)
  obtain ⟨c, hrun, hce, _⟩ := cat_run (⟨W.L.toArray⟩ : ByteArray) s (by omega)
  have HCE := Lib.hid hce
  clear hce hcat
  have KS := Lib.hid (fun (W1 : World) (h : RWin w W1 g w.heap.size ⟨W.L.toArray⟩ a0 #[.int .i64 8, .int .i64 n, .string s]) => show W1.cell? ⟨g, 0, none⟩ = some (.string ⟨W.L.toArray⟩) ∧ W1.cell? ⟨w.heap.size, 0, none⟩ = some (.int .i64 8) ∧ W1.cell? ⟨w.heap.size, 1, none⟩ = some (.int .i64 n) ∧ W1.cell? ⟨w.heap.size, 2, none⟩ = some (.string s) ∧ W1.frozen? ⟨g, 0, none⟩ = false from ⟨h.blk.cell 0, h.box.cell 0, h.box.cell 1, h.box.cell 2, h.blk.frozen 0⟩)
  obtain ⟨c0, c2, c3, c4, c5⟩ := KS.out _ hi
  have c1 : (w.alloc (.cells #[.int .i64 8, .int .i64 n, .string s] 110)).cell? ⟨g, 1, none⟩ = some (.int .i64 0) := hi.blk.cell 1
  have HI := Lib.hid hi
  clear hi h
  generalize (⟨W.L.toArray⟩ : ByteArray) = a at *
  have KT := Lib.hid (fun (W1 : World) (h : RWin w W1 g w.heap.size a a0 #[.int .i64 8, .int .i64 n, .string s]) => show W1.cell? ⟨g, 0, none⟩ = some (.string a) ∧ W1.cell? ⟨w.heap.size, 2, none⟩ = some (.string s) from ⟨h.blk.cell 0, h.box.cell 2⟩)
  go_enter Tryz.func64, Tryz.ntmps64
  go_wp2_with fail
  have hi0 := HI.out
  clear c0 c1 c2 c3 c4 c5
  obtain ⟨t0, t1⟩ := KT.out _ hi0
  refine wp_region_T (fun W => W.cell? ⟨g, 0, none⟩ = some (.string a) ∧ W.cell? ⟨w.heap.size, 2, none⟩ = some (.string s)) 10 (by kernel_rfl) ?_ (fun hHeld => ?_)
  · (first | assumption | exact KT.out _ (by assumption) | exact KT.out _ (RWin.drewN (by assumption) 1))
  refine wpAnyT_take (i := 0) (oi := { dst := some 125, op := Op.move (Operand.tmp 0), type := 105, pos := _, after := _, guard := none }) (v := ?_) rfl (by kernel_rfl) (by kernel_rfl) (by kernel_rfl) (by kernel_rfl) (fun _ _ _ h => h) (Or.inl ⟨by rfl, ?_⟩) (by assumption) ?_
  rotate_left
  · (intro w hSw; (try dsimp only at hSw); go_simp; (try with_reducible rfl))
  (try simp only [Act.put, List.setIfInBounds_toArray, List.set_cons_zero, List.set_cons_succ])
  refine wpAnyT_take (i := 1) (oi := { dst := some 126, op := Op.move (Operand.tmp 0), type := 105, pos := _, after := _, guard := none }) (v := ?_) rfl (by kernel_rfl) (by kernel_rfl) (by kernel_rfl) (by kernel_rfl) (fun _ _ _ h => h) (Or.inl ⟨by rfl, ?_⟩) (by assumption) ?_
  rotate_left
  · (intro w hSw; (try dsimp only at hSw); go_simp; (try with_reducible rfl))
  (try simp only [Act.put, List.setIfInBounds_toArray, List.set_cons_zero, List.set_cons_succ])
  refine wpAnyT_take (i := 2) (oi := { dst := some 127, op := Op.nilCheck (Operand.tmp 126), type := 0, pos := _, after := _, guard := none }) (v := ?_) rfl (by kernel_rfl) (by kernel_rfl) (by kernel_rfl) (by kernel_rfl) (fun _ _ _ h => h) (Or.inl ⟨by rfl, ?_⟩) (by assumption) ?_
  rotate_left
  · (intro w hSw; (try dsimp only at hSw); go_simp; (try with_reducible rfl))
  (try simp only [Act.put, List.setIfInBounds_toArray, List.set_cons_zero, List.set_cons_succ])
  refine wpAnyT_take (i := 3) (oi := { dst := some 128, op := Op.fieldAddr 107 (Operand.tmp 127) 0, type := 0, pos := _, after := _, guard := none }) (v := ?_) rfl (by kernel_rfl) (by kernel_rfl) (by kernel_rfl) (by kernel_rfl) (fun _ _ _ h => h) (Or.inl ⟨by rfl, ?_⟩) (by assumption) ?_
  rotate_left
  · (intro w hSw; (try dsimp only at hSw); go_simp; (try with_reducible rfl))
  (try simp only [Act.put, List.setIfInBounds_toArray, List.set_cons_zero, List.set_cons_succ])
  refine wpAnyT_take (i := 4) (oi := { dst := some 129, op := Op.load 9 (Operand.tmp 128), type := 9, pos := _, after := _, guard := none }) (v := ?_) rfl (by kernel_rfl) (by kernel_rfl) (by kernel_rfl) (by kernel_rfl) (fun _ _ _ h => h) (Or.inl ⟨by rfl, ?_⟩) (by assumption) ?_
  rotate_left
  · (intro w hSw; (try dsimp only at hSw); go_simp; (try with_reducible rfl))
  (try simp only [Act.put, List.setIfInBounds_toArray, List.set_cons_zero, List.set_cons_succ])
  refine wpAnyT_take (i := 5) (oi := { dst := some 130, op := Op.fieldAddr 110 (Operand.tmp 3) 2, type := 0, pos := _, after := _, guard := none }) (v := ?_) rfl (by kernel_rfl) (by kernel_rfl) (by kernel_rfl) (by kernel_rfl) (fun _ _ _ h => h) (Or.inl ⟨by rfl, ?_⟩) (by assumption) ?_
  rotate_left
  · (intro w hSw; (try dsimp only at hSw); go_simp; (try with_reducible rfl))
  (try simp only [Act.put, List.setIfInBounds_toArray, List.set_cons_zero, List.set_cons_succ])
  refine wpAnyT_take (i := 6) (oi := { dst := some 131, op := Op.load 9 (Operand.tmp 130), type := 9, pos := _, after := _, guard := none }) (v := ?_) rfl (by kernel_rfl) (by kernel_rfl) (by kernel_rfl) (by kernel_rfl) (fun _ _ _ h => h) (Or.inl ⟨by rfl, ?_⟩) (by assumption) ?_
  rotate_left
  · (intro w hSw; (try dsimp only at hSw); go_simp; (try with_reducible rfl))
  (try simp only [Act.put, List.setIfInBounds_toArray, List.set_cons_zero, List.set_cons_succ])
  refine wpAnyT_one (i := 7) (o := { dst := some 132, op := Op.binOp BinOp.add 9 (Operand.tmp 129) (Operand.tmp 131) 9, type := 9, pos := _, after := _, guard := none }) (by kernel_rfl) rfl (fun K hK => ?_)
  go_simp
  refine hK.out _ _ (fun _ => ?_) (fun hH1 => ?_)
  · (first | assumption | exact KT.out _ (by assumption) | exact KT.out _ (RWin.drewN (by assumption) 1))
  have hHeld1 := hH1 (by decide)
  clear hK K hH1
  (try simp only [Act.put, List.setIfInBounds_toArray, List.set_cons_zero, List.set_cons_succ])
  refine wpAnyT_one (i := 8) (o := { dst := some 133, op := Op.nilCheck (Operand.tmp 125), type := 0, pos := _, after := _, guard := none }) (by kernel_rfl) rfl (fun K hK => ?_)
  go_simp
  refine hK.out _ _ (fun _ => ?_) (fun hH2 => ?_)
  · (first | assumption | exact KT.out _ (by assumption) | exact KT.out _ (RWin.drewN (by assumption) 1))
  have hHeld2 := hH2 (by decide)
  clear hK K hH2
  (try simp only [Act.put, List.setIfInBounds_toArray, List.set_cons_zero, List.set_cons_succ])
  refine wpAnyT_one (i := 9) (o := { dst := some 134, op := Op.fieldAddr 107 (Operand.tmp 133) 0, type := 0, pos := _, after := _, guard := none }) (by kernel_rfl) rfl (fun K hK => ?_)
  have y0 := t0
  have y1 := hi0.frozen
  go_simp
  refine hK.out _ _ (fun _ => ?_) (fun hH3 => ?_)
  · (first | assumption | exact KT.out _ (by assumption) | exact KT.out _ (RWin.drewN (by assumption) 1))
  have hHeld3 := hH3 (by decide)
  clear hK K hH3
  (try simp only [Act.put, List.setIfInBounds_toArray, List.set_cons_zero, List.set_cons_succ])
  refine wpAnyT_one (i := 10) (o := { dst := none, op := Op.store 9 (Operand.tmp 134) (Operand.tmp 132), type := 0, pos := _, after := _, guard := none }) (by kernel_rfl) rfl (fun K hK => ?_)
  go_simp
  refine hK.out _ _ (fun h => absurd rfl h) (fun _ => ?_)
  clear hK K
  (try simp only [Act.put, List.setIfInBounds_toArray, List.set_cons_zero, List.set_cons_succ])
  refine wpAnyT_done (by kernel_rfl) ?_ _
  have HN := Lib.hid (HS.out _ c HCE.out (hi0.drewN 1))
  go_wp2_with fail
  exact bodyPost_end (v := .tuple #[]) (by simp [results, Tryz.results64, go_sem]) rfl ⟨rfl, HN.out⟩
set_option maxHeartbeats 1000000 in
theorem rwdo_7 (h : RWObj w g W) (h0 : W.no = 0) (hl : W.L.length ≤ 900000) (n : Int) (s : ByteArray) (hs : s.size ≤ 65535) :
    Calls Tryz.prog 64 #[.pointer (some ⟨g, 0, none⟩), .agg #[.int .i64 7, .int .i64 n, .string s]] w fun x w' => x = .returned (.tuple #[]) ∧ RWNext w w' g ⟨0, W.at_, W.L ++ (binE s).L⟩ := by
  obtain ⟨a0, hi⟩ := h.start h0 #[.int .i64 7, .int .i64 n, .string s]
  have hsz : (⟨W.L.toArray⟩ : ByteArray).size = W.L.length := bsize _
  have hcat : (⟨W.L.toArray⟩ : ByteArray) ++ ⟨(binE s).L.toArray⟩ = ⟨(W.L ++ (binE s).L).toArray⟩ := by
    apply ba_eq
    simp
  have HS := Lib.hid (fun (W1 : World) (c : ByteArray) (hc : c = ⟨W.L.toArray⟩ ++ ⟨(binE s).L.toArray⟩) (h : RWin w W1 g w.heap.size ⟨W.L.toArray⟩ a0 #[.int .i64 7, .int .i64 n, .string s]) => RWin.stored (c := c) h (hc.trans hcat) W.at_)
  have htz : (⟨(binE s).L.toArray⟩ : ByteArray).size = 2 + s.size := by rw [bsize, binE_len]
  have ht := fun W1 => rtext_any s W1 hs
  generalize (⟨(binE s).L.toArray⟩ : ByteArray) = t at *
  obtain ⟨c, hrun, hce, _⟩ := cat_run (⟨W.L.toArray⟩ : ByteArray) t (by omega)
  have HCE := Lib.hid hce
  have HT := Lib.hid (fun (W1 : World) (h : RWin w W1 g w.heap.size ⟨W.L.toArray⟩ a0 #[.int .i64 7, .int .i64 n, .string s]) => (ht W1).mono fun x w' hx => show x = Ending.returned (.string t) ∧ RWin w w' g w.heap.size ⟨W.L.toArray⟩ a0 #[.int .i64 7, .int .i64 n, .string s] from ⟨hx.1, h.below hx.2⟩)
  clear hce hcat ht htz
  have KS := Lib.hid (fun (W1 : World) (h : RWin w W1 g w.heap.size ⟨W.L.toArray⟩ a0 #[.int .i64 7, .int .i64 n, .string s]) => show W1.cell? ⟨g, 0, none⟩ = some (.string ⟨W.L.toArray⟩) ∧ W1.cell? ⟨w.heap.size, 0, none⟩ = some (.int .i64 7) ∧ W1.cell? ⟨w.heap.size, 1, none⟩ = some (.int .i64 n) ∧ W1.cell? ⟨w.heap.size, 2, none⟩ = some (.string s) ∧ W1.frozen? ⟨g, 0, none⟩ = false from ⟨h.blk.cell 0, h.box.cell 0, h.box.cell 1, h.box.cell 2, h.blk.frozen 0⟩)
  obtain ⟨c0, c2, c3, c4, c5⟩ := KS.out _ hi
  have c1 : (w.alloc (.cells #[.int .i64 7, .int .i64 n, .string s] 110)).cell? ⟨g, 1, none⟩ = some (.int .i64 0) := hi.blk.cell 1
  have HI := Lib.hid hi
  clear hi h
  generalize (⟨W.L.toArray⟩ : ByteArray) = a at *
  have KT := Lib.hid (fun (W1 : World) (h : RWin w W1 g w.heap.size a a0 #[.int .i64 7, .int .i64 n, .string s]) => show W1.cell? ⟨g, 0, none⟩ = some (.string a) ∧ W1.cell? ⟨w.heap.size, 2, none⟩ = some (.string s) from ⟨h.blk.cell 0, h.box.cell 2⟩)
  go_enter Tryz.func64, Tryz.ntmps64
  go_wp2_with fail
  have hi0 := HI.out
  clear c0 c1 c2 c3 c4 c5
  obtain ⟨t0, t1⟩ := KT.out _ hi0
  refine wp_region_T (fun W => W.cell? ⟨g, 0, none⟩ = some (.string a) ∧ W.cell? ⟨w.heap.size, 2, none⟩ = some (.string s)) 11 (by kernel_rfl) ?_ (fun hHeld => ?_)
  · (first | assumption | exact KT.out _ (by assumption) | exact KT.out _ (RWin.drewN (by assumption) 1))
  refine wpAnyT_take (i := 0) (oi := { dst := some 112, op := Op.move (Operand.tmp 0), type := 105, pos := _, after := _, guard := none }) (v := ?_) rfl (by kernel_rfl) (by kernel_rfl) (by kernel_rfl) (by kernel_rfl) (fun _ _ _ h => h) (Or.inl ⟨by rfl, ?_⟩) (by assumption) ?_
  rotate_left
  · (intro w hSw; (try dsimp only at hSw); go_simp; (try with_reducible rfl))
  (try simp only [Act.put, List.setIfInBounds_toArray, List.set_cons_zero, List.set_cons_succ])
  refine wpAnyT_take (i := 1) (oi := { dst := some 113, op := Op.move (Operand.tmp 0), type := 105, pos := _, after := _, guard := none }) (v := ?_) rfl (by kernel_rfl) (by kernel_rfl) (by kernel_rfl) (by kernel_rfl) (fun _ _ _ h => h) (Or.inl ⟨by rfl, ?_⟩) (by assumption) ?_
  rotate_left
  · (intro w hSw; (try dsimp only at hSw); go_simp; (try with_reducible rfl))
  (try simp only [Act.put, List.setIfInBounds_toArray, List.set_cons_zero, List.set_cons_succ])
  refine wpAnyT_take (i := 2) (oi := { dst := some 114, op := Op.nilCheck (Operand.tmp 113), type := 0, pos := _, after := _, guard := none }) (v := ?_) rfl (by kernel_rfl) (by kernel_rfl) (by kernel_rfl) (by kernel_rfl) (fun _ _ _ h => h) (Or.inl ⟨by rfl, ?_⟩) (by assumption) ?_
  rotate_left
  · (intro w hSw; (try dsimp only at hSw); go_simp; (try with_reducible rfl))
  (try simp only [Act.put, List.setIfInBounds_toArray, List.set_cons_zero, List.set_cons_succ])
  refine wpAnyT_take (i := 3) (oi := { dst := some 115, op := Op.fieldAddr 107 (Operand.tmp 114) 0, type := 0, pos := _, after := _, guard := none }) (v := ?_) rfl (by kernel_rfl) (by kernel_rfl) (by kernel_rfl) (by kernel_rfl) (fun _ _ _ h => h) (Or.inl ⟨by rfl, ?_⟩) (by assumption) ?_
  rotate_left
  · (intro w hSw; (try dsimp only at hSw); go_simp; (try with_reducible rfl))
  (try simp only [Act.put, List.setIfInBounds_toArray, List.set_cons_zero, List.set_cons_succ])
  refine wpAnyT_take (i := 4) (oi := { dst := some 116, op := Op.load 9 (Operand.tmp 115), type := 9, pos := _, after := _, guard := none }) (v := ?_) rfl (by kernel_rfl) (by kernel_rfl) (by kernel_rfl) (by kernel_rfl) (fun _ _ _ h => h) (Or.inl ⟨by rfl, ?_⟩) (by assumption) ?_
  rotate_left
  · (intro w hSw; (try dsimp only at hSw); go_simp; (try with_reducible rfl))
  (try simp only [Act.put, List.setIfInBounds_toArray, List.set_cons_zero, List.set_cons_succ])
  refine wpAnyT_take (i := 5) (oi := { dst := some 117, op := Op.fieldAddr 110 (Operand.tmp 3) 2, type := 0, pos := _, after := _, guard := none }) (v := ?_) rfl (by kernel_rfl) (by kernel_rfl) (by kernel_rfl) (by kernel_rfl) (fun _ _ _ h => h) (Or.inl ⟨by rfl, ?_⟩) (by assumption) ?_
  rotate_left
  · (intro w hSw; (try dsimp only at hSw); go_simp; (try with_reducible rfl))
  (try simp only [Act.put, List.setIfInBounds_toArray, List.set_cons_zero, List.set_cons_succ])
  refine wpAnyT_take (i := 6) (oi := { dst := some 118, op := Op.load 9 (Operand.tmp 117), type := 9, pos := _, after := _, guard := none }) (v := ?_) rfl (by kernel_rfl) (by kernel_rfl) (by kernel_rfl) (by kernel_rfl) (fun _ _ _ h => h) (Or.inl ⟨by rfl, ?_⟩) (by assumption) ?_
  rotate_left
  · (intro w hSw; (try dsimp only at hSw); go_simp; (try with_reducible rfl))
  (try simp only [Act.put, List.setIfInBounds_toArray, List.set_cons_zero, List.set_cons_succ])
  refine wpAnyT_one (i := 7) (o := { dst := some 119, op := Op.call { callee := Callee.value (Operand.func 92), args := #[Operand.tmp 118], argTypes := #[9] }, type := 9, pos := _, after := _, guard := none }) (by kernel_rfl) rfl (fun K hK => ?_)
  go_simp
  refine (HT.out _ (RWin.drewN (by assumption) 1)).mono ?_
  rintro x w6 ⟨rfl, hi6⟩
  go_wp2_with fail
  refine hK.out _ _ (fun _ => ?_) (fun hH1 => ?_)
  · (first | assumption | exact KT.out _ (by assumption) | exact KT.out _ (RWin.drewN (by assumption) 1))
  have hHeld1 := hH1 (by decide)
  clear hK K hH1
  (try simp only [Act.put, List.setIfInBounds_toArray, List.set_cons_zero, List.set_cons_succ])
  refine wpAnyT_one (i := 8) (o := { dst := some 120, op := Op.binOp BinOp.add 9 (Operand.tmp 116) (Operand.tmp 119) 9, type := 9, pos := _, after := _, guard := none }) (by kernel_rfl) rfl (fun K hK => ?_)
  go_simp
  refine hK.out _ _ (fun _ => ?_) (fun hH2 => ?_)
  · (first | assumption | exact KT.out _ (by assumption) | exact KT.out _ (RWin.drewN (by assumption) 1))
  have hHeld2 := hH2 (by decide)
  clear hK K hH2
  (try simp only [Act.put, List.setIfInBounds_toArray, List.set_cons_zero, List.set_cons_succ])
  refine wpAnyT_one (i := 9) (o := { dst := some 121, op := Op.nilCheck (Operand.tmp 112), type := 0, pos := _, after := _, guard := none }) (by kernel_rfl) rfl (fun K hK => ?_)
  go_simp
  refine hK.out _ _ (fun _ => ?_) (fun hH3 => ?_)
  · (first | assumption | exact KT.out _ (by assumption) | exact KT.out _ (RWin.drewN (by assumption) 1))
  have hHeld3 := hH3 (by decide)
  clear hK K hH3
  (try simp only [Act.put, List.setIfInBounds_toArray, List.set_cons_zero, List.set_cons_succ])
  refine wpAnyT_one (i := 10) (o := { dst := some 122, op := Op.fieldAddr 107 (Operand.tmp 121) 0, type := 0, pos := _, after := _, guard := none }) (by kernel_rfl) rfl (fun K hK => ?_)
  have y0 := (KT.out _ hi6).1
  have y1 := hi6.frozen
  go_simp
  refine hK.out _ _ (fun _ => ?_) (fun hH4 => ?_)
  · (first | assumption | exact KT.out _ (by assumption) | exact KT.out _ (RWin.drewN (by assumption) 1))
  have hHeld4 := hH4 (by decide)
  clear hK K hH4
  (try simp only [Act.put, List.setIfInBounds_toArray, List.set_cons_zero, List.set_cons_succ])
  refine wpAnyT_one (i := 11) (o := { dst := none, op := Op.store 9 (Operand.tmp 122) (Operand.tmp 120), type := 0, pos := _, after := _, guard := none }) (by kernel_rfl) rfl (fun K hK => ?_)
  go_simp
  refine hK.out _ _ (fun h => absurd rfl h) (fun _ => ?_)
  clear hK K
  (try simp only [Act.put, List.setIfInBounds_toArray, List.set_cons_zero, List.set_cons_succ])
  refine wpAnyT_done (by kernel_rfl) ?_ _
  have HN := Lib.hid (HS.out _ c HCE.out hi6)
  go_wp2_with fail
  exact bodyPost_end (v := .tuple #[]) (by simp [results, Tryz.results64, go_sem]) rfl ⟨rfl, HN.out⟩
set_option maxHeartbeats 1000000 in
theorem rwdo_6 (h : RWObj w g W) (h0 : W.no = 0) (hl : W.L.length ≤ 900000) (n : Int) (s : ByteArray) (hs : s.size ≤ 65535) (hc : checkOf s = (0, 0)) :
    Calls Tryz.prog 64 #[.pointer (some ⟨g, 0, none⟩), .agg #[.int .i64 6, .int .i64 n, .string s]] w fun x w' => x = .returned (.tuple #[]) ∧ RWNext w w' g ⟨0, W.at_, W.L ++ (binE s).L⟩ := by
  obtain ⟨a0, hi⟩ := h.start h0 #[.int .i64 6, .int .i64 n, .string s]
  have hsz : (⟨W.L.toArray⟩ : ByteArray).size = W.L.length := bsize _
  have hk := fun W1 => rf_check s W1 (by omega)
  rw [hc] at hk
  have HK := Lib.hid hk
  clear hk hc
  have hcat : (⟨W.L.toArray⟩ : ByteArray) ++ ⟨(binE s).L.toArray⟩ = ⟨(W.L ++ (binE s).L).toArray⟩ := by
    apply ba_eq
    simp
  have HS := Lib.hid (fun (W1 : World) (c : ByteArray) (hc : c = ⟨W.L.toArray⟩ ++ ⟨(binE s).L.toArray⟩) (h : RWin w W1 g w.heap.size ⟨W.L.toArray⟩ a0 #[.int .i64 6, .int .i64 n, .string s]) => RWin.stored (c := c) h (hc.trans hcat) W.at_)
  have htz : (⟨(binE s).L.toArray⟩ : ByteArray).size = 2 + s.size := by rw [bsize, binE_len]
  have ht := fun W1 => rtext_any s W1 hs
  generalize (⟨(binE s).L.toArray⟩ : ByteArray) = t at *
  obtain ⟨c, hrun, hce, _⟩ := cat_run (⟨W.L.toArray⟩ : ByteArray) t (by omega)
  have HCE := Lib.hid hce
  have HT := Lib.hid (fun (W1 : World) (h : RWin w W1 g w.heap.size ⟨W.L.toArray⟩ a0 #[.int .i64 6, .int .i64 n, .string s]) => (ht W1).mono fun x w' hx => show x = Ending.returned (.string t) ∧ RWin w w' g w.heap.size ⟨W.L.toArray⟩ a0 #[.int .i64 6, .int .i64 n, .string s] from ⟨hx.1, h.below hx.2⟩)
  clear hce hcat ht htz
  have KS := Lib.hid (fun (W1 : World) (h : RWin w W1 g w.heap.size ⟨W.L.toArray⟩ a0 #[.int .i64 6, .int .i64 n, .string s]) => show W1.cell? ⟨g, 0, none⟩ = some (.string ⟨W.L.toArray⟩) ∧ W1.cell? ⟨w.heap.size, 0, none⟩ = some (.int .i64 6) ∧ W1.cell? ⟨w.heap.size, 1, none⟩ = some (.int .i64 n) ∧ W1.cell? ⟨w.heap.size, 2, none⟩ = some (.string s) ∧ W1.frozen? ⟨g, 0, none⟩ = false from ⟨h.blk.cell 0, h.box.cell 0, h.box.cell 1, h.box.cell 2, h.blk.frozen 0⟩)
  obtain ⟨c0, c2, c3, c4, c5⟩ := KS.out _ hi
  have c1 : (w.alloc (.cells #[.int .i64 6, .int .i64 n, .string s] 110)).cell? ⟨g, 1, none⟩ = some (.int .i64 0) := hi.blk.cell 1
  have HI := Lib.hid hi
  clear hi h
  generalize (⟨W.L.toArray⟩ : ByteArray) = a at *
  have KT := Lib.hid (fun (W1 : World) (h : RWin w W1 g w.heap.size a a0 #[.int .i64 6, .int .i64 n, .string s]) => show W1.cell? ⟨g, 0, none⟩ = some (.string a) ∧ W1.cell? ⟨w.heap.size, 2, none⟩ = some (.string s) from ⟨h.blk.cell 0, h.box.cell 2⟩)
  go_enter Tryz.func64, Tryz.ntmps64
  go_wp2_with fail
  refine (HK.out _).mono ?_
  rintro x w1 ⟨rfl, hb⟩
  have HI1 := Lib.hid (HI.out.below hb)
  have s0 := KS.out _ HI1.out
  obtain ⟨e0, e2, e3, e4, e5⟩ := s0
  clear hb c0 c1 c2 c3 c4 c5 HI
  go_wp2_with fail
  have hi0 := HI1.out
  clear e0 e2 e3 e4 e5
  obtain ⟨t0, t1⟩ := KT.out _ hi0
  refine wp_region_T (fun W => W.cell? ⟨g, 0, none⟩ = some (.string a) ∧ W.cell? ⟨w.heap.size, 2, none⟩ = some (.string s)) 11 (by kernel_rfl) ?_ (fun hHeld => ?_)
  · (first | assumption | exact KT.out _ (by assumption) | exact KT.out _ (RWin.drewN (by assumption) 1))
  refine wpAnyT_take (i := 0) (oi := { dst := some 92, op := Op.move (Operand.tmp 0), type := 105, pos := _, after := _, guard := none }) (v := ?_) rfl (by kernel_rfl) (by kernel_rfl) (by kernel_rfl) (by kernel_rfl) (fun _ _ _ h => h) (Or.inl ⟨by rfl, ?_⟩) (by assumption) ?_
  rotate_left
  · (intro w hSw; (try dsimp only at hSw); go_simp; (try with_reducible rfl))
  (try simp only [Act.put, List.setIfInBounds_toArray, List.set_cons_zero, List.set_cons_succ])
  refine wpAnyT_take (i := 1) (oi := { dst := some 93, op := Op.move (Operand.tmp 0), type := 105, pos := _, after := _, guard := none }) (v := ?_) rfl (by kernel_rfl) (by kernel_rfl) (by kernel_rfl) (by kernel_rfl) (fun _ _ _ h => h) (Or.inl ⟨by rfl, ?_⟩) (by assumption) ?_
  rotate_left
  · (intro w hSw; (try dsimp only at hSw); go_simp; (try with_reducible rfl))
  (try simp only [Act.put, List.setIfInBounds_toArray, List.set_cons_zero, List.set_cons_succ])
  refine wpAnyT_take (i := 2) (oi := { dst := some 94, op := Op.nilCheck (Operand.tmp 93), type := 0, pos := _, after := _, guard := none }) (v := ?_) rfl (by kernel_rfl) (by kernel_rfl) (by kernel_rfl) (by kernel_rfl) (fun _ _ _ h => h) (Or.inl ⟨by rfl, ?_⟩) (by assumption) ?_
  rotate_left
  · (intro w hSw; (try dsimp only at hSw); go_simp; (try with_reducible rfl))
  (try simp only [Act.put, List.setIfInBounds_toArray, List.set_cons_zero, List.set_cons_succ])
  refine wpAnyT_take (i := 3) (oi := { dst := some 95, op := Op.fieldAddr 107 (Operand.tmp 94) 0, type := 0, pos := _, after := _, guard := none }) (v := ?_) rfl (by kernel_rfl) (by kernel_rfl) (by kernel_rfl) (by kernel_rfl) (fun _ _ _ h => h) (Or.inl ⟨by rfl, ?_⟩) (by assumption) ?_
  rotate_left
  · (intro w hSw; (try dsimp only at hSw); go_simp; (try with_reducible rfl))
  (try simp only [Act.put, List.setIfInBounds_toArray, List.set_cons_zero, List.set_cons_succ])
  refine wpAnyT_take (i := 4) (oi := { dst := some 96, op := Op.load 9 (Operand.tmp 95), type := 9, pos := _, after := _, guard := none }) (v := ?_) rfl (by kernel_rfl) (by kernel_rfl) (by kernel_rfl) (by kernel_rfl) (fun _ _ _ h => h) (Or.inl ⟨by rfl, ?_⟩) (by assumption) ?_
  rotate_left
  · (intro w hSw; (try dsimp only at hSw); go_simp; (try with_reducible rfl))
  (try simp only [Act.put, List.setIfInBounds_toArray, List.set_cons_zero, List.set_cons_succ])
  refine wpAnyT_take (i := 5) (oi := { dst := some 97, op := Op.fieldAddr 110 (Operand.tmp 3) 2, type := 0, pos := _, after := _, guard := none }) (v := ?_) rfl (by kernel_rfl) (by kernel_rfl) (by kernel_rfl) (by kernel_rfl) (fun _ _ _ h => h) (Or.inl ⟨by rfl, ?_⟩) (by assumption) ?_
  rotate_left
  · (intro w hSw; (try dsimp only at hSw); go_simp; (try with_reducible rfl))
  (try simp only [Act.put, List.setIfInBounds_toArray, List.set_cons_zero, List.set_cons_succ])
  refine wpAnyT_take (i := 6) (oi := { dst := some 98, op := Op.load 9 (Operand.tmp 97), type := 9, pos := _, after := _, guard := none }) (v := ?_) rfl (by kernel_rfl) (by kernel_rfl) (by kernel_rfl) (by kernel_rfl) (fun _ _ _ h => h) (Or.inl ⟨by rfl, ?_⟩) (by assumption) ?_
  rotate_left
  · (intro w hSw; (try dsimp only at hSw); go_simp; (try with_reducible rfl))
  (try simp only [Act.put, List.setIfInBounds_toArray, List.set_cons_zero, List.set_cons_succ])
  refine wpAnyT_one (i := 7) (o := { dst := some 99, op := Op.call { callee := Callee.value (Operand.func 92), args := #[Operand.tmp 98], argTypes := #[9] }, type := 9, pos := _, after := _, guard := none }) (by kernel_rfl) rfl (fun K hK => ?_)
  go_simp
  refine (HT.out _ (RWin.drewN (by assumption) 1)).mono ?_
  rintro x w6 ⟨rfl, hi6⟩
  go_wp2_with fail
  refine hK.out _ _ (fun _ => ?_) (fun hH1 => ?_)
  · (first | assumption | exact KT.out _ (by assumption) | exact KT.out _ (RWin.drewN (by assumption) 1))
  have hHeld1 := hH1 (by decide)
  clear hK K hH1
  (try simp only [Act.put, List.setIfInBounds_toArray, List.set_cons_zero, List.set_cons_succ])
  refine wpAnyT_one (i := 8) (o := { dst := some 100, op := Op.binOp BinOp.add 9 (Operand.tmp 96) (Operand.tmp 99) 9, type := 9, pos := _, after := _, guard := none }) (by kernel_rfl) rfl (fun K hK => ?_)
  go_simp
  refine hK.out _ _ (fun _ => ?_) (fun hH2 => ?_)
  · (first | assumption | exact KT.out _ (by assumption) | exact KT.out _ (RWin.drewN (by assumption) 1))
  have hHeld2 := hH2 (by decide)
  clear hK K hH2
  (try simp only [Act.put, List.setIfInBounds_toArray, List.set_cons_zero, List.set_cons_succ])
  refine wpAnyT_one (i := 9) (o := { dst := some 101, op := Op.nilCheck (Operand.tmp 92), type := 0, pos := _, after := _, guard := none }) (by kernel_rfl) rfl (fun K hK => ?_)
  go_simp
  refine hK.out _ _ (fun _ => ?_) (fun hH3 => ?_)
  · (first | assumption | exact KT.out _ (by assumption) | exact KT.out _ (RWin.drewN (by assumption) 1))
  have hHeld3 := hH3 (by decide)
  clear hK K hH3
  (try simp only [Act.put, List.setIfInBounds_toArray, List.set_cons_zero, List.set_cons_succ])
  refine wpAnyT_one (i := 10) (o := { dst := some 102, op := Op.fieldAddr 107 (Operand.tmp 101) 0, type := 0, pos := _, after := _, guard := none }) (by kernel_rfl) rfl (fun K hK => ?_)
  have y0 := (KT.out _ hi6).1
  have y1 := hi6.frozen
  go_simp
  refine hK.out _ _ (fun _ => ?_) (fun hH4 => ?_)
  · (first | assumption | exact KT.out _ (by assumption) | exact KT.out _ (RWin.drewN (by assumption) 1))
  have hHeld4 := hH4 (by decide)
  clear hK K hH4
  (try simp only [Act.put, List.setIfInBounds_toArray, List.set_cons_zero, List.set_cons_succ])
  refine wpAnyT_one (i := 11) (o := { dst := none, op := Op.store 9 (Operand.tmp 102) (Operand.tmp 100), type := 0, pos := _, after := _, guard := none }) (by kernel_rfl) rfl (fun K hK => ?_)
  go_simp
  refine hK.out _ _ (fun h => absurd rfl h) (fun _ => ?_)
  clear hK K
  (try simp only [Act.put, List.setIfInBounds_toArray, List.set_cons_zero, List.set_cons_succ])
  refine wpAnyT_done (by kernel_rfl) ?_ _
  have HN := Lib.hid (HS.out _ c HCE.out hi6)
  go_wp2_with fail
  exact bodyPost_end (v := .tuple #[]) (by simp [results, Tryz.results64, go_sem]) rfl ⟨rfl, HN.out⟩
set_option maxHeartbeats 1000000 in
theorem rwbad_6 (h : RWObj w g W) (h0 : W.no = 0) (hl : W.L.length ≤ 900000) (n : Int) (s : ByteArray) (hs : s.size ≤ 65535) (hc : (checkOf s).1 ≠ 0) :
    Calls Tryz.prog 64 #[.pointer (some ⟨g, 0, none⟩), .agg #[.int .i64 6, .int .i64 n, .string s]] w fun x w' => x = .returned (.tuple #[]) ∧ RWNext w w' g ⟨(checkOf s).1, W.L.length + (2 + (checkOf s).2), []⟩ := by
  obtain ⟨a0, hi⟩ := h.start h0 #[.int .i64 6, .int .i64 n, .string s]
  have hsz : (⟨W.L.toArray⟩ : ByteArray).size = W.L.length := bsize _
  have HK := Lib.hid (fun W1 => rf_check s W1 (by omega))
  have hle := check_at s
  have hz : (((checkOf s).1 : Int) == 0) = false := beq_eq_false_iff_ne.2 (by omega)
  generalize checkOf s = c at *
  have HC := Lib.hid hc
  have HLE := Lib.hid hle
  clear hc hle
  have KS := Lib.hid (fun (W1 : World) (h : RWin w W1 g w.heap.size ⟨W.L.toArray⟩ a0 #[.int .i64 6, .int .i64 n, .string s]) => show W1.cell? ⟨g, 0, none⟩ = some (.string ⟨W.L.toArray⟩) ∧ W1.cell? ⟨w.heap.size, 0, none⟩ = some (.int .i64 6) ∧ W1.cell? ⟨w.heap.size, 1, none⟩ = some (.int .i64 n) ∧ W1.cell? ⟨w.heap.size, 2, none⟩ = some (.string s) ∧ W1.frozen? ⟨g, 0, none⟩ = false from ⟨h.blk.cell 0, h.box.cell 0, h.box.cell 1, h.box.cell 2, h.blk.frozen 0⟩)
  obtain ⟨c0, c2, c3, c4, c5⟩ := KS.out _ hi
  have c1 : (w.alloc (.cells #[.int .i64 6, .int .i64 n, .string s] 110)).cell? ⟨g, 1, none⟩ = some (.int .i64 0) := hi.blk.cell 1
  have HI := Lib.hid hi
  clear hi h
  go_enter Tryz.func64, Tryz.ntmps64
  go_wp2_with fail
  refine (HK.out _).mono ?_
  rintro x w1 ⟨rfl, hb⟩
  have HI1 := Lib.hid (HI.out.below hb)
  have s0 := KS.out _ HI1.out
  obtain ⟨e0, e2, e3, e4, e5⟩ := s0
  clear hb c0 c1 c2 c3 c4 c5 HI
  have HX := Lib.hid (show RWObj w1 g W from ⟨W.L, a0, by rw [h0]; exact HI1.out.blk, fun _ => rfl, fun h => absurd h0 h⟩)
  have HP := Lib.hid HI1.out.bel
  have hle := HLE.out
  go_wp2_with fail
  have hsum : (W.L.length : Int) + 2 + (c.2 : Int) = ((W.L.length + (2 + c.2) : Nat) : Int) := by omega
  rw [hsum]
  refine (rwfail_any HX.out c.1 (W.L.length + (2 + c.2)) HC.out []).mono ?_
  rintro x w6 ⟨rfl, hN⟩
  have HN := Lib.hid (hN.pre HP.out)
  clear hN
  go_wp2
  exact bodyPost_ret (v := .tuple #[]) (by simp [results, Tryz.results64, go_sem]) rfl ⟨rfl, HN.out⟩
set_option maxHeartbeats 1000000 in
theorem rwdo_5 (h : RWObj w g W) (h0 : W.no = 0) (hl : W.L.length ≤ 900000) (n : Nat) (s : ByteArray) (hn : n ≤ 268435455) :
    Calls Tryz.prog 64 #[.pointer (some ⟨g, 0, none⟩), .agg #[.int .i64 5, .int .i64 n, .string s]] w fun x w' => x = .returned (.tuple #[]) ∧ RWNext w w' g ⟨0, W.at_, W.L ++ vb n⟩ := by
  obtain ⟨a0, hi⟩ := h.start h0 #[.int .i64 5, .int .i64 n, .string s]
  have hsz : (⟨W.L.toArray⟩ : ByteArray).size = W.L.length := bsize _
  have HK := Lib.hid (fun W1 => ref_put n hn W1)
  have hv := vb_len n hn
  have hcat : (⟨W.L.toArray⟩ : ByteArray) ++ ⟨(vb n).toArray⟩ = ⟨(W.L ++ vb n).toArray⟩ := by
    apply ba_eq
    simp
  have HS := Lib.hid (fun (W1 : World) (c : ByteArray) (hc : c = ⟨W.L.toArray⟩ ++ ⟨(vb n).toArray⟩) (h : RWin w W1 g w.heap.size ⟨W.L.toArray⟩ a0 #[.int .i64 5, .int .i64 n, .string s]) => RWin.stored (c := c) h (hc.trans hcat) W.at_)
  have htz : (⟨(vb n).toArray⟩ : ByteArray).size = (vb n).length := bsize _
  generalize (⟨(vb n).toArray⟩ : ByteArray) = t at *
  obtain ⟨c, hrun, hce, _⟩ := cat_run (⟨W.L.toArray⟩ : ByteArray) t (by omega)
  have HCE := Lib.hid hce
  clear hce hcat htz hv hn
  have KS := Lib.hid (fun (W1 : World) (h : RWin w W1 g w.heap.size ⟨W.L.toArray⟩ a0 #[.int .i64 5, .int .i64 n, .string s]) => show W1.cell? ⟨g, 0, none⟩ = some (.string ⟨W.L.toArray⟩) ∧ W1.cell? ⟨w.heap.size, 0, none⟩ = some (.int .i64 5) ∧ W1.cell? ⟨w.heap.size, 1, none⟩ = some (.int .i64 n) ∧ W1.cell? ⟨w.heap.size, 2, none⟩ = some (.string s) ∧ W1.frozen? ⟨g, 0, none⟩ = false from ⟨h.blk.cell 0, h.box.cell 0, h.box.cell 1, h.box.cell 2, h.blk.frozen 0⟩)
  obtain ⟨c0, c2, c3, c4, c5⟩ := KS.out _ hi
  have c1 : (w.alloc (.cells #[.int .i64 5, .int .i64 n, .string s] 110)).cell? ⟨g, 1, none⟩ = some (.int .i64 0) := hi.blk.cell 1
  have HI := Lib.hid hi
  clear hi h
  go_enter Tryz.func64, Tryz.ntmps64
  go_wp2_with fail
  refine (HK.out _).mono ?_
  rintro x w1 ⟨rfl, hb⟩
  have HI1 := Lib.hid (HI.out.below hb)
  have s0 := KS.out _ HI1.out
  obtain ⟨e0, e2, e3, e4, e5⟩ := s0
  clear hb c0 c1 c2 c3 c4 c5 HI
  go_wp2_with fail
  have HN := Lib.hid (HS.out _ c HCE.out HI1.out)
  exact bodyPost_end (v := .tuple #[]) (by simp [results, Tryz.results64, go_sem]) rfl ⟨rfl, HN.out⟩
set_option maxHeartbeats 1000000 in
theorem rwbad_5 (h : RWObj w g W) (h0 : W.no = 0) (n : Int) (s : ByteArray) (hn : n < 0 ∨ 268435455 < n) :
    Calls Tryz.prog 64 #[.pointer (some ⟨g, 0, none⟩), .agg #[.int .i64 5, .int .i64 n, .string s]] w fun x w' => x = .returned (.tuple #[]) ∧ RWNext w w' g ⟨4, W.L.length, []⟩ := by
  obtain ⟨a0, hi⟩ := h.start h0 #[.int .i64 5, .int .i64 n, .string s]
  have hsz : (⟨W.L.toArray⟩ : ByteArray).size = W.L.length := bsize _
  have HK := Lib.hid (fun W1 => ref_put_out n hn W1)
  clear hn
  have KS := Lib.hid (fun (W1 : World) (h : RWin w W1 g w.heap.size ⟨W.L.toArray⟩ a0 #[.int .i64 5, .int .i64 n, .string s]) => show W1.cell? ⟨g, 0, none⟩ = some (.string ⟨W.L.toArray⟩) ∧ W1.cell? ⟨w.heap.size, 0, none⟩ = some (.int .i64 5) ∧ W1.cell? ⟨w.heap.size, 1, none⟩ = some (.int .i64 n) ∧ W1.cell? ⟨w.heap.size, 2, none⟩ = some (.string s) ∧ W1.frozen? ⟨g, 0, none⟩ = false from ⟨h.blk.cell 0, h.box.cell 0, h.box.cell 1, h.box.cell 2, h.blk.frozen 0⟩)
  obtain ⟨c0, c2, c3, c4, c5⟩ := KS.out _ hi
  have c1 : (w.alloc (.cells #[.int .i64 5, .int .i64 n, .string s] 110)).cell? ⟨g, 1, none⟩ = some (.int .i64 0) := hi.blk.cell 1
  have HI := Lib.hid hi
  clear hi h
  go_enter Tryz.func64, Tryz.ntmps64
  go_wp2_with fail
  refine (HK.out _).mono ?_
  rintro x w1 ⟨rfl, rfl⟩
  have HX := Lib.hid (show RWObj _ g W from ⟨W.L, a0, by rw [h0]; exact HI.out.blk, fun _ => rfl, fun h => absurd h0 h⟩)
  have HP := Lib.hid HI.out.bel
  go_wp2_with fail
  refine (rwfail_any HX.out 4 W.L.length (by omega) []).mono ?_
  rintro x w6 ⟨rfl, hN⟩
  have HN := Lib.hid (hN.pre HP.out)
  clear hN
  go_wp2
  exact bodyPost_ret (v := .tuple #[]) (by simp [results, Tryz.results64, go_sem]) rfl ⟨rfl, HN.out⟩
set_option maxHeartbeats 1000000 in
theorem rwdo_other (h : RWObj w g W) (h0 : W.no = 0) (k n : Int) (s : ByteArray) (h1 : k ≠ 1) (h2 : k ≠ 2) (h4 : k ≠ 4) (h5 : k ≠ 5) (h6 : k ≠ 6) (h7 : k ≠ 7) (h8 : k ≠ 8) :
    Calls Tryz.prog 64 #[.pointer (some ⟨g, 0, none⟩), .agg #[.int .i64 k, .int .i64 n, .string s]] w fun x w' => x = .returned (.tuple #[]) ∧ RWNext w w' g W := by
  obtain ⟨a0, hi⟩ := h.start h0 #[.int .i64 k, .int .i64 n, .string s]
  have hsz : (⟨W.L.toArray⟩ : ByteArray).size = W.L.length := bsize _
  have KS := Lib.hid (fun (W1 : World) (h : RWin w W1 g w.heap.size ⟨W.L.toArray⟩ a0 #[.int .i64 k, .int .i64 n, .string s]) => show W1.cell? ⟨g, 0, none⟩ = some (.string ⟨W.L.toArray⟩) ∧ W1.cell? ⟨w.heap.size, 0, none⟩ = some (.int .i64 k) ∧ W1.cell? ⟨w.heap.size, 1, none⟩ = some (.int .i64 n) ∧ W1.cell? ⟨w.heap.size, 2, none⟩ = some (.string s) ∧ W1.frozen? ⟨g, 0, none⟩ = false from ⟨h.blk.cell 0, h.box.cell 0, h.box.cell 1, h.box.cell 2, h.blk.frozen 0⟩)
  obtain ⟨c0, c2, c3, c4, c5⟩ := KS.out _ hi
  have c1 : (w.alloc (.cells #[.int .i64 k, .int .i64 n, .string s] 110)).cell? ⟨g, 1, none⟩ = some (.int .i64 0) := hi.blk.cell 1
  have HI := Lib.hid hi
  clear hi h
  have HN := Lib.hid (show RWNext w (w.alloc (.cells #[.int .i64 k, .int .i64 n, .string s] 110)) g W from ⟨⟨W.L, a0, by rw [h0]; exact HI.out.blk, fun _ => rfl, fun h => absurd h0 h⟩, Fr.of_below HI.out.bel⟩)
  have b1 : (k == 1) = false := beq_eq_false_iff_ne.2 h1
  have b2 : (k == 2) = false := beq_eq_false_iff_ne.2 h2
  have b4 : (k == 4) = false := beq_eq_false_iff_ne.2 h4
  have b5 : (k == 5) = false := beq_eq_false_iff_ne.2 h5
  have b6 : (k == 6) = false := beq_eq_false_iff_ne.2 h6
  have b7 : (k == 7) = false := beq_eq_false_iff_ne.2 h7
  have b8 : (k == 8) = false := beq_eq_false_iff_ne.2 h8
  clear h1 h2 h4 h5 h6 h7 h8 HI KS
  go_enter Tryz.func64, Tryz.ntmps64
  go_wp2
  exact bodyPost_end (v := .tuple #[]) (by simp [results, Tryz.results64, go_sem]) rfl ⟨rfl, HN.out⟩
theorem rwdo_any (h : RWObj w g W) (hl : W.L.length ≤ 900000) (a : FV) (hs : a.s.size ≤ 65535) :
    Calls Tryz.prog 64 #[.pointer (some ⟨g, 0, none⟩), a.agg] w fun x w' => x = .returned (.tuple #[]) ∧ RWNext w w' g (stepW W (encA a)) := by
  obtain ⟨k, n, s⟩ := a
  unfold encA FV.agg
  simp only at hs ⊢
  by_cases h0 : W.no = 0
  case neg => rw [stepW_stuck h0]; exact rwdo_stuck h h0 k n s
  by_cases h1 : k = 1
  · subst h1
    rw [if_pos rfl]
    by_cases hn : n < 0 ∨ ((256 ^ 1 : Nat) : Int) ≤ n
    · have e : stepW W (numE 1 n) = ⟨4, W.L.length, []⟩ := by
        unfold numE
        rw [if_pos hn, stepW_bad h0 (by simp)]
        rfl
      rw [e]
      rcases hn with hn | hn
      · exact rwbad_1n h h0 n s hn
      · obtain ⟨m, rfl⟩ : ∃ m : Nat, n = (m : Int) := ⟨n.toNat, by omega⟩
        exact rwbad_1p h h0 m s (by omega)
    · obtain ⟨m, rfl⟩ : ∃ m : Nat, n = (m : Int) := ⟨n.toNat, by omega⟩
      have e : stepW W (numE 1 m) = ⟨0, W.at_, W.L ++ be 1 m⟩ := by
        unfold numE
        rw [if_neg hn, stepW_ok h0 rfl]
        rfl
      rw [e]
      exact rwdo_1 h h0 hl m s (by omega)
  by_cases h2 : k = 2
  · subst h2
    rw [if_neg h1, if_pos rfl]
    by_cases hn : n < 0 ∨ ((256 ^ 2 : Nat) : Int) ≤ n
    · have e : stepW W (numE 2 n) = ⟨4, W.L.length, []⟩ := by
        unfold numE
        rw [if_pos hn, stepW_bad h0 (by simp)]
        rfl
      rw [e]
      rcases hn with hn | hn
      · exact rwbad_2n h h0 n s hn
      · obtain ⟨m, rfl⟩ : ∃ m : Nat, n = (m : Int) := ⟨n.toNat, by omega⟩
        exact rwbad_2p h h0 m s (by omega)
    · obtain ⟨m, rfl⟩ : ∃ m : Nat, n = (m : Int) := ⟨n.toNat, by omega⟩
      have e : stepW W (numE 2 m) = ⟨0, W.at_, W.L ++ be 2 m⟩ := by
        unfold numE
        rw [if_neg hn, stepW_ok h0 rfl]
        rfl
      rw [e]
      exact rwdo_2 h h0 hl m s (by omega)
  by_cases h4 : k = 4
  · subst h4
    rw [if_neg h1, if_neg h2, if_pos rfl]
    by_cases hn : n < 0 ∨ ((256 ^ 4 : Nat) : Int) ≤ n
    · have e : stepW W (numE 4 n) = ⟨4, W.L.length, []⟩ := by
        unfold numE
        rw [if_pos hn, stepW_bad h0 (by simp)]
        rfl
      rw [e]
      rcases hn with hn | hn
      · exact rwbad_4n h h0 n s hn
      · obtain ⟨m, rfl⟩ : ∃ m : Nat, n = (m : Int) := ⟨n.toNat, by omega⟩
        exact rwbad_4p h h0 m s (by omega)
    · obtain ⟨m, rfl⟩ : ∃ m : Nat, n = (m : Int) := ⟨n.toNat, by omega⟩
      have e : stepW W (numE 4 m) = ⟨0, W.at_, W.L ++ be 4 m⟩ := by
        unfold numE
        rw [if_neg hn, stepW_ok h0 rfl]
        rfl
      rw [e]
      exact rwdo_4 h h0 hl m s (by omega)
  by_cases h5 : k = 5
  · subst h5
    rw [if_neg h1, if_neg h2, if_neg h4, if_pos rfl]
    by_cases hn : n < 0 ∨ 268435455 < n
    · have e : stepW W (varE n) = ⟨4, W.L.length, []⟩ := by
        unfold varE
        rw [if_pos hn, stepW_bad h0 (by simp)]
        rfl
      rw [e]
      exact rwbad_5 h h0 n s hn
    · obtain ⟨m, rfl⟩ : ∃ m : Nat, n = (m : Int) := ⟨n.toNat, by omega⟩
      have e : stepW W (varE m) = ⟨0, W.at_, W.L ++ vb m⟩ := by
        unfold varE
        rw [if_neg hn, stepW_ok h0 rfl]
        rfl
      rw [e]
      exact rwdo_5 h h0 hl m s (by omega)
  by_cases h6 : k = 6
  · subst h6
    rw [if_neg h1, if_neg h2, if_neg h4, if_neg h5, if_pos rfl]
    by_cases hc : (checkOf s).1 = 0
    · have e : stepW W (textE s) = ⟨0, W.at_, W.L ++ (binE s).L⟩ := by
        unfold textE
        rw [if_pos hc, stepW_ok h0 (by rfl)]
      rw [e]
      exact rwdo_6 h h0 hl n s hs (check_zero hc).2.2
    · have e : stepW W (textE s) = ⟨(checkOf s).1, W.L.length + (2 + (checkOf s).2), []⟩ := by
        unfold textE
        rw [if_neg hc, stepW_bad h0 hc]
      rw [e]
      exact rwbad_6 h h0 hl n s hs hc
  by_cases h7 : k = 7
  · subst h7
    rw [if_neg h1, if_neg h2, if_neg h4, if_neg h5, if_neg h6, if_pos rfl, stepW_ok h0 (by rfl)]
    exact rwdo_7 h h0 hl n s hs
  by_cases h8 : k = 8
  · subst h8
    rw [if_neg h1, if_neg h2, if_neg h4, if_neg h5, if_neg h6, if_neg h7, if_pos rfl, stepW_ok h0 (by rfl)]
    exact rwdo_8 h h0 hl n s hs
  · rw [if_neg h1, if_neg h2, if_neg h4, if_neg h5, if_neg h6, if_neg h7, if_neg h8, stepW_none]
    exact rwdo_other h h0 k n s h1 h2 h4 h5 h6 h7 h8
end
end Go.Proofs.YtnolnhpmpjgnaaaGreatDoor
namespace Go.Proofs.YtnolnhpmpjgnaaaGreatDoor
set_option maxRecDepth 100000
open Go.RowKit Go.Extern.Stop Go.Stop Go.Extern
theorem rvar04_any (n : Nat) (hn : n ≤ 268435455) (w : World) : Calls Tryz.prog 94 #[.int .i64 n] w fun x w' => x = .returned (.string ⟨(vb n).toArray⟩) ∧ Below w.heap.size w w' := by
  have HP := Lib.hid (ref_put n hn w)
  clear hn
  go_enter Tryz.func94, Tryz.ntmps94
  go_wp2_with fail
  refine HP.out.mono ?_
  rintro x w1 ⟨rfl, hb⟩
  have HB := Lib.hid hb
  clear hb HP
  go_wp2_with fail
  go_ret
  exact ⟨rfl, HB.out⟩
/-- What the document's Encode holds. -/
structure RnIn (w W : World) (gW : Nat) (V : EV) (A : Option Addr) (L : PL) : Prop where
  pb : PbIn w W A L
  rb : Blk W w.heap.size 34 #[.int .i64 0, .int .i64 0, .int .i64 0]
  wr : RWObj W gW V
  gz : w.heap.size < gW
section
variable {w W W' : World} {gW bx : Nat} {V V' : EV} {A : Option Addr} {L : PL} {t : TypeId} {cs : Array Value}
theorem RnIn.below (h : RnIn w W gW V A L) (hb : Below W.heap.size W W') : RnIn w W' gW V A L := ⟨h.pb.below hb, h.rb.below hb h.rb.lt, h.wr.below hb, h.gz⟩
theorem RnIn.step (h : RnIn w W gW V A L) (hn : RWNext W W' gW V') : RnIn w W' gW V' A L := by
  refine ⟨⟨hn.2.later h.pb.bel (fun b hb => ?_) h.pb.bel.size, h.pb.rd.fr hn.2 fun k hk => ?_⟩, h.rb.fr hn.2 fun hm => ?_, hn.1, h.gz⟩
  · rw [List.mem_singleton] at hb
    have := h.gz
    omega
  · rw [List.mem_singleton] at hk
    subst hk
    refine ⟨Nat.le_of_lt h.gz, fun cs hc => ?_⟩
    obtain ⟨l, a, hb, _⟩ := h.wr
    exact hb.other hc (by decide) rfl
  · rw [List.mem_singleton] at hm
    have := h.gz
    omega
theorem RnIn.blk (h : RnIn w W gW V A L) (hn : RWNext W W' gW V') (hb : Blk W bx t cs) (ht : t ≠ 107) : Blk W' bx t cs := by
  refine hb.fr hn.2 fun hm => ?_
  rw [List.mem_singleton] at hm
  subst hm
  obtain ⟨l, a, hw, _⟩ := h.wr
  exact hb.other hw ht rfl
def RenSays (w : World) (q : EnR) (x : Ending) (w' : World) : Prop :=
  ∃ no : Nat, ∃ r : Int, ∃ a : Nat, x = .returned (.tuple #[.string ⟨q.L.toArray⟩, .agg #[.int .i64 no, .int .i64 r, .int .i64 a]]) ∧ no = q.no ∧ (q.no ≠ 0 → r = q.r ∧ a = q.at_) ∧ Below w.heap.size w w'
theorem encA_0 (n : Int) (s : ByteArray) : encA ⟨((0 : Nat) : Int), n, s⟩ = ⟨0, 0, []⟩ := by unfold encA; simp
set_option maxHeartbeats 4000000 in
theorem rencode_any (place : Int) (n c : Nat) (hn : n = L.length) (h : PIn w w.heap.size A L) (hS : SmallP L) (hcap : n ≤ c) : Calls Tryz.prog 65 #[.int .i64 place, .slice A n c] w (RenSays w (encR place L)) := by
  obtain ⟨q, hq⟩ : ∃ q, q = encR place L := ⟨_, rfl⟩
  rw [← hq]
  have HQ := Lib.hid hq
  have HN := Lib.hid hn
  have HS := Lib.hid hS
  have hn70 : n ≤ 70 := by have := hS.1; omega
  have hb0 : Below w.heap.size w (w.alloc (.cells #[.int .i64 0, .int .i64 0, .int .i64 0] 34)) := (Below.refl _ _).alloc (Nat.le_refl _) _
  have hi0 : RcIn w (w.alloc (.cells #[.int .i64 0, .int .i64 0, .int .i64 0] 34)) A L := ⟨⟨hb0, h.below hb0⟩, Blk.made w _ _⟩
  have HC := Lib.hid (rcheck_any place n c hn (hi0.pb.rd.mono hb0.size) (by omega) hcap)
  have HI0 := Lib.hid hi0
  clear hq hn h hS hb0 hi0
  obtain ⟨⟨cn, cr, ca⟩, hc⟩ : ∃ z, z = chkL place L := ⟨_, rfl⟩
  rw [← hc] at HC
  have HCH := Lib.hid hc
  clear hc
  by_cases hcn : cn = 0
  · subst hcn
    have hx : q = if (wrAll (actsL6 L)).no = 0 then ⟨0, 129, 0, vb (wrAll (actsL6 L)).L.length ++ (wrAll (actsL6 L)).L⟩ else ⟨(wrAll (actsL6 L)).no, 129, (wrAll (actsL6 L)).at_, []⟩ := by rw [HQ.out]; unfold encR; rw [← HCH.out, if_pos rfl]
    have HQX := Lib.hid hx
    have HC0 := Lib.hid (show Calls Tryz.prog 93 #[.int .i64 place, .slice A n c] (w.alloc (.cells #[.int .i64 0, .int .i64 0, .int .i64 0] 34)) (fun x w' => x = .returned (.agg #[.int .i64 0, .int .i64 cr, .int .i64 (ca : Int)]) ∧ Below (w.alloc (.cells #[.int .i64 0, .int .i64 0, .int .i64 0] 34)).heap.size (w.alloc (.cells #[.int .i64 0, .int .i64 0, .int .i64 0] 34)) w') from HC.out)
    clear hx HQ HCH HC
    go_enter Tryz.func65, Tryz.ntmps65
    go_wp2_with fail
    refine HC0.out.mono ?_
    rintro x w1 ⟨rfl, hb1⟩
    have hi1 := HI0.out.below hb1
    have hb2 : Below w1.heap.size w1 (w1.alloc (.cells #[.int .i64 0, .int .i64 cr, .int .i64 ca] 34)) := (Below.refl _ _).alloc (Nat.le_refl _) _
    have f0 := (Blk.made w1 34 #[.int .i64 0, .int .i64 cr, .int .i64 ca]).cell 0
    have hi2 := hi1.below hb2
    have hb3 : Below (w1.alloc (.cells #[.int .i64 0, .int .i64 cr, .int .i64 ca] 34)).heap.size (w1.alloc (.cells #[.int .i64 0, .int .i64 cr, .int .i64 ca] 34)) ((w1.alloc (.cells #[.int .i64 0, .int .i64 cr, .int .i64 ca] 34)).alloc (.cells #[.string ⟨#[]⟩, .int .i64 0, .int .i64 0] 107)) := (Below.refl _ _).alloc (Nat.le_refl _) _
    have hi3 := hi2.below hb3
    have HR0 : Hid (RnIn w ((w1.alloc (.cells #[.int .i64 0, .int .i64 cr, .int .i64 ca] 34)).alloc (.cells #[.string ⟨#[]⟩, .int .i64 0, .int .i64 0] 107)) (w1.heap.size + 1) (wrAll (actsL6 (L.take 0))) A L) := Lib.hid ⟨hi3.pb, hi3.box, by
      have h := RWObj.made (w1.alloc (.cells #[.int .i64 0, .int .i64 cr, .int .i64 ca] 34))
      rw [World.size_alloc] at h
      exact h, by have := hi1.box.lt; omega⟩
    clear hb1 hi1 hb2 hi2 hb3 hi3 HC0 HI0
    go_wp2_with fail
    go_loopw [8] (fun j wr => ∃ k : Nat, k ≤ n ∧ j = .int .i64 k ∧ Hid (RnIn w wr (w1.heap.size + 1) (wrAll (actsL6 (L.take k))) A L)) (fun j _ => n - (intOf j).toNat)
    case atStart => exact ⟨0, by omega, rfl, HR0⟩
    case round =>
      obtain ⟨k, hk, rfl, HI⟩ := hrel
      by_cases hlt : k < n
      · have hkL : k < L.length := by have := HN.out; omega
        obtain ⟨g, off, hA, hc, _⟩ := HI.out.pb.rd (by omega)
        subst hA
        have hcw := hc k hkL
        have hsz := SmallP.at HS.out k hkL
        obtain ⟨p, hp⟩ : ∃ p, p = L.getD k p0 := ⟨_, rfl⟩
        rw [← hp] at hcw hsz
        have hwl := wr6_len HS.out k
        have hsn : stepL (wrAll (actsL6 (L.take k))) (actsP p) = wrAll (actsL6 (L.take (k + 1))) := by
          rw [← wr_snoc6, List.take_succ_eq_append_getElem hkL, hp, List.getD_eq_getElem?_getD, List.getElem?_eq_getElem hkL]
          rfl
        have HSN := Lib.hid hsn
        obtain ⟨V, hV⟩ : ∃ V, V = wrAll (actsL6 (L.take k)) := ⟨_, rfl⟩
        rw [← hV] at HI hwl HSN
        obtain ⟨pi, pn, ps, pv⟩ := p
        simp only at hsz
        obtain ⟨hz1, hz2⟩ := hsz
        obtain ⟨c0, c1, c2, c3⟩ := hcw
        have hb1 : Below wr.heap.size wr (wr.alloc (.cells #[.int .i64 pi, .int .i64 pn, .string ps, .string pv] 98)) := (Below.refl _ _).alloc (Nat.le_refl _) _
        have HI1 := Lib.hid (HI.out.below hb1)
        have HB1 := Lib.hid (Blk.made wr 98 #[.int .i64 pi, .int .i64 pn, .string ps, .string pv])
        have e0 := HB1.out.cell 0
        have HD1 := Lib.hid (show Calls Tryz.prog 64 #[.pointer (some ⟨w1.heap.size + 1, 0, none⟩), .agg #[.int .i64 5, .int .i64 pi, .string ⟨#[]⟩]] _ _ from rwdo_any HI1.out.wr (by omega) ⟨5, pi, ⟨#[]⟩⟩ (by show (⟨#[]⟩ : ByteArray).size ≤ _; decide))
        rw [encA_5] at HD1
        have hl1 : (stepW V (varE pi)).L.length ≤ 63844 := by
          have h1 := stepW_len V (varE pi)
          have h2 := varE_len pi
          omega
        have HTY := Lib.hid (fun W : World => rtype06_any pi W)
        clear hc hb1 hp hV hsn hwl
        go_wp2_with fail
        refine HD1.out.mono ?_
        rintro x w3 ⟨rfl, hN3⟩
        have HI3 := Lib.hid (HI1.out.step hN3)
        have HB3 := Lib.hid (HI1.out.blk hN3 HB1.out (by decide))
        have b0 := HB3.out.cell 0
        have b1 := HB3.out.cell 1
        have b2 := HB3.out.cell 2
        have b3 := HB3.out.cell 3
        clear hN3 HD1
        rcases typeI_vals pi with ht | ht | ht | ht | ht | ht | ht | ht
        · have hst := acts_0 V (p := ⟨pi, pn, ps, pv⟩) ht
          rw [HSN.out] at hst
          have HST := Lib.hid hst
          rw [ht] at HTY
          clear hst ht
          go_wp2_with fail
          refine (HTY.out _).mono ?_
          rintro x w4 ⟨rfl, rfl⟩
          have HD4 := Lib.hid (show Calls Tryz.prog 64 #[.pointer (some ⟨w1.heap.size + 1, 0, none⟩), .agg #[.int .i64 0, .int .i64 pn, .string ⟨#[]⟩]] _ _ from rwdo_any HI3.out.wr (by omega) ⟨0, pn, ⟨#[]⟩⟩ (by show (⟨#[]⟩ : ByteArray).size ≤ _; decide))
          go_wp2_with fail
          refine HD4.out.mono ?_
          rintro x w5 ⟨rfl, hN5⟩
          have HI5 := Lib.hid (HI3.out.step hN5)
          have HX := Lib.hid (show RnIn w w5 (w1.heap.size + 1) (wrAll (actsL6 (L.take (k + 1)))) _ L from by
            rw [HST.out]
            have h := HI5.out
            rw [show encA ⟨0, pn, ⟨#[]⟩⟩ = ⟨0, 0, []⟩ from encA_0 pn ⟨#[]⟩, stepW_none] at h
            exact h)
          clear hN5 HD4
          go_wp2_with fail
          go_roundw
          case rel => exact ⟨k + 1, by omega, by go_num, HX⟩
          case measure => simp [intOf]; omega
        · have hst := acts_1 V (p := ⟨pi, pn, ps, pv⟩) ht
          rw [HSN.out] at hst
          have HST := Lib.hid hst
          rw [ht] at HTY
          clear hst ht
          go_wp2_with fail
          refine (HTY.out _).mono ?_
          rintro x w4 ⟨rfl, rfl⟩
          have HD4 := Lib.hid (show Calls Tryz.prog 64 #[.pointer (some ⟨w1.heap.size + 1, 0, none⟩), .agg #[.int .i64 1, .int .i64 pn, .string ⟨#[]⟩]] _ _ from rwdo_any HI3.out.wr (by omega) ⟨1, pn, ⟨#[]⟩⟩ (by show (⟨#[]⟩ : ByteArray).size ≤ _; decide))
          go_wp2_with fail
          refine HD4.out.mono ?_
          rintro x w5 ⟨rfl, hN5⟩
          have HI5 := Lib.hid (HI3.out.step hN5)
          have HX := Lib.hid (show RnIn w w5 (w1.heap.size + 1) (wrAll (actsL6 (L.take (k + 1)))) _ L from by rw [HST.out]; exact HI5.out)
          clear hN5 HD4
          go_wp2_with fail
          go_roundw
          case rel => exact ⟨k + 1, by omega, by go_num, HX⟩
          case measure => simp [intOf]; omega
        · have hst := acts_2 V (p := ⟨pi, pn, ps, pv⟩) ht
          rw [HSN.out] at hst
          have HST := Lib.hid hst
          rw [ht] at HTY
          clear hst ht
          go_wp2_with fail
          refine (HTY.out _).mono ?_
          rintro x w4 ⟨rfl, rfl⟩
          have HD4 := Lib.hid (show Calls Tryz.prog 64 #[.pointer (some ⟨w1.heap.size + 1, 0, none⟩), .agg #[.int .i64 2, .int .i64 pn, .string ⟨#[]⟩]] _ _ from rwdo_any HI3.out.wr (by omega) ⟨2, pn, ⟨#[]⟩⟩ (by show (⟨#[]⟩ : ByteArray).size ≤ _; decide))
          go_wp2_with fail
          refine HD4.out.mono ?_
          rintro x w5 ⟨rfl, hN5⟩
          have HI5 := Lib.hid (HI3.out.step hN5)
          have HX := Lib.hid (show RnIn w w5 (w1.heap.size + 1) (wrAll (actsL6 (L.take (k + 1)))) _ L from by rw [HST.out]; exact HI5.out)
          clear hN5 HD4
          go_wp2_with fail
          go_roundw
          case rel => exact ⟨k + 1, by omega, by go_num, HX⟩
          case measure => simp [intOf]; omega
        · have hst := acts_4 V (p := ⟨pi, pn, ps, pv⟩) ht
          rw [HSN.out] at hst
          have HST := Lib.hid hst
          rw [ht] at HTY
          clear hst ht
          go_wp2_with fail
          refine (HTY.out _).mono ?_
          rintro x w4 ⟨rfl, rfl⟩
          have HD4 := Lib.hid (show Calls Tryz.prog 64 #[.pointer (some ⟨w1.heap.size + 1, 0, none⟩), .agg #[.int .i64 4, .int .i64 pn, .string ⟨#[]⟩]] _ _ from rwdo_any HI3.out.wr (by omega) ⟨4, pn, ⟨#[]⟩⟩ (by show (⟨#[]⟩ : ByteArray).size ≤ _; decide))
          go_wp2_with fail
          refine HD4.out.mono ?_
          rintro x w5 ⟨rfl, hN5⟩
          have HI5 := Lib.hid (HI3.out.step hN5)
          have HX := Lib.hid (show RnIn w w5 (w1.heap.size + 1) (wrAll (actsL6 (L.take (k + 1)))) _ L from by rw [HST.out]; exact HI5.out)
          clear hN5 HD4
          go_wp2_with fail
          go_roundw
          case rel => exact ⟨k + 1, by omega, by go_num, HX⟩
          case measure => simp [intOf]; omega
        · have hst := acts_5 V (p := ⟨pi, pn, ps, pv⟩) ht
          rw [HSN.out] at hst
          have HST := Lib.hid hst
          rw [ht] at HTY
          clear hst ht
          go_wp2_with fail
          refine (HTY.out _).mono ?_
          rintro x w4 ⟨rfl, rfl⟩
          have HD4 := Lib.hid (show Calls Tryz.prog 64 #[.pointer (some ⟨w1.heap.size + 1, 0, none⟩), .agg #[.int .i64 5, .int .i64 pn, .string ⟨#[]⟩]] _ _ from rwdo_any HI3.out.wr (by omega) ⟨5, pn, ⟨#[]⟩⟩ (by show (⟨#[]⟩ : ByteArray).size ≤ _; decide))
          go_wp2_with fail
          refine HD4.out.mono ?_
          rintro x w5 ⟨rfl, hN5⟩
          have HI5 := Lib.hid (HI3.out.step hN5)
          have HX := Lib.hid (show RnIn w w5 (w1.heap.size + 1) (wrAll (actsL6 (L.take (k + 1)))) _ L from by rw [HST.out]; exact HI5.out)
          clear hN5 HD4
          go_wp2_with fail
          go_roundw
          case rel => exact ⟨k + 1, by omega, by go_num, HX⟩
          case measure => simp [intOf]; omega
        · have hst := acts_6 V (p := ⟨pi, pn, ps, pv⟩) ht
          rw [HSN.out] at hst
          have HST := Lib.hid hst
          rw [ht] at HTY
          clear hst ht
          go_wp2_with fail
          refine (HTY.out _).mono ?_
          rintro x w4 ⟨rfl, rfl⟩
          have HD4 := Lib.hid (show Calls Tryz.prog 64 #[.pointer (some ⟨w1.heap.size + 1, 0, none⟩), .agg #[.int .i64 6, .int .i64 0, .string ps]] _ _ from rwdo_any HI3.out.wr (by omega) ⟨6, 0, ps⟩ (by show ps.size ≤ _; omega))
          go_wp2_with fail
          refine HD4.out.mono ?_
          rintro x w5 ⟨rfl, hN5⟩
          have HI5 := Lib.hid (HI3.out.step hN5)
          have HX := Lib.hid (show RnIn w w5 (w1.heap.size + 1) (wrAll (actsL6 (L.take (k + 1)))) _ L from by rw [HST.out]; exact HI5.out)
          clear hN5 HD4
          go_wp2_with fail
          go_roundw
          case rel => exact ⟨k + 1, by omega, by go_num, HX⟩
          case measure => simp [intOf]; omega
        · have hst := acts_7 V (p := ⟨pi, pn, ps, pv⟩) ht
          rw [HSN.out] at hst
          have HST := Lib.hid hst
          rw [ht] at HTY
          clear hst ht
          go_wp2_with fail
          refine (HTY.out _).mono ?_
          rintro x w4 ⟨rfl, rfl⟩
          have HD4 := Lib.hid (show Calls Tryz.prog 64 #[.pointer (some ⟨w1.heap.size + 1, 0, none⟩), .agg #[.int .i64 7, .int .i64 0, .string ps]] _ _ from rwdo_any HI3.out.wr (by omega) ⟨7, 0, ps⟩ (by show ps.size ≤ _; omega))
          go_wp2_with fail
          refine HD4.out.mono ?_
          rintro x w5 ⟨rfl, hN5⟩
          have HI5 := Lib.hid (HI3.out.step hN5)
          have HX := Lib.hid (show RnIn w w5 (w1.heap.size + 1) (wrAll (actsL6 (L.take (k + 1)))) _ L from by rw [HST.out]; exact HI5.out)
          clear hN5 HD4
          go_wp2_with fail
          go_roundw
          case rel => exact ⟨k + 1, by omega, by go_num, HX⟩
          case measure => simp [intOf]; omega
        · have hst := acts_9 V (p := ⟨pi, pn, ps, pv⟩) ht
          rw [HSN.out] at hst
          have HST := Lib.hid hst
          rw [ht] at HTY
          clear hst ht
          go_wp2_with fail
          refine (HTY.out _).mono ?_
          rintro x w4 ⟨rfl, rfl⟩
          have HD4 := Lib.hid (show Calls Tryz.prog 64 #[.pointer (some ⟨w1.heap.size + 1, 0, none⟩), .agg #[.int .i64 6, .int .i64 0, .string ps]] _ _ from rwdo_any HI3.out.wr (by omega) ⟨6, 0, ps⟩ (by show ps.size ≤ _; omega))
          go_wp2_with fail
          refine HD4.out.mono ?_
          rintro x w5 ⟨rfl, hN5⟩
          have HI5 := Lib.hid (HI3.out.step hN5)
          have b3 := (HI3.out.blk hN5 HB3.out (by decide)).cell 3
          have hl5 : (stepW (stepW V (varE pi)) (encA ⟨6, 0, ps⟩)).L.length ≤ 130000 := by
            have h1 := stepW_len (stepW V (varE pi)) (encA ⟨6, 0, ps⟩)
            have h2 := encA_len ⟨6, 0, ps⟩
            simp only at h2
            omega
          have HD6 := Lib.hid (show Calls Tryz.prog 64 #[.pointer (some ⟨w1.heap.size + 1, 0, none⟩), .agg #[.int .i64 6, .int .i64 0, .string pv]] _ _ from rwdo_any HI5.out.wr (by omega) ⟨6, 0, pv⟩ (by show pv.size ≤ _; omega))
          clear hN5 hl5 HD4
          go_wp2_with fail
          refine HD6.out.mono ?_
          rintro x w7 ⟨rfl, hN7⟩
          have HX := Lib.hid (show RnIn w w7 (w1.heap.size + 1) (wrAll (actsL6 (L.take (k + 1)))) _ L from by rw [HST.out]; exact HI5.out.step hN7)
          clear hN7 HD6
          go_wp2_with fail
          go_roundw
          case rel => exact ⟨k + 1, by omega, by go_num, HX⟩
          case measure => simp [intOf]; omega
      · have htk : L.take k = L := List.take_of_length_le (by have := HN.out; omega)
        rw [htk] at HI
        have hwl := wr6_len HS.out L.length
        rw [List.take_length] at hwl
        obtain ⟨V, hV⟩ : ∃ V, V = wrAll (actsL6 L) := ⟨_, rfl⟩
        rw [← hV] at HI hwl HQX
        obtain ⟨no, at_, VL⟩ := V
        simp only at hwl HQX
        clear hV htk
        obtain ⟨l, a, hwb, hw1, hw2⟩ := HI.out.wr
        simp only at hwb hw1 hw2
        have c1 := hwb.cell 1
        by_cases hno : no = 0
        · subst hno
          obtain rfl := hw1 rfl
          have c0 := hwb.cell 0
          have hvs : (⟨l.toArray⟩ : ByteArray).size = l.length := rfl
          have hvd : (⟨l.toArray⟩ : ByteArray).data.toList = l := by simp
          obtain ⟨vs, hvs'⟩ : ∃ vs : ByteArray, vs = ⟨l.toArray⟩ := ⟨_, rfl⟩
          rw [← hvs'] at hvs hvd
          have c0' : wr.cell? ⟨w1.heap.size + 1, 0, none⟩ = some (.string vs) := by rw [hvs']; exact c0
          have hvz : vs.size ≤ 63840 := by omega
          obtain ⟨vbs, hvb⟩ : ∃ vbs : ByteArray, vbs = ⟨(vb vs.size).toArray⟩ := ⟨_, rfl⟩
          have hvbz : vbs.size = (vb vs.size).length := by rw [hvb]; rfl
          have hvb4 := (vb_len vs.size (by omega)).2
          obtain ⟨cat, hcat, hce, _⟩ := cat_run vbs vs (by omega)
          have hfin : cat = ⟨(vb l.length ++ l).toArray⟩ := ba_eq (by rw [hce, hvb, ← hvs]; simp [hvd])
          have HV := Lib.hid (fun W : World => rvar04_any vs.size (by omega) W)
          rw [← hvb] at HV
          have HFIN := Lib.hid hfin
          have HI6 := Lib.hid (fun (W6 : World) (hb : Below wr.drew.heap.size wr.drew W6) => show RnIn w W6 (w1.heap.size + 1) ⟨0, at_, l⟩ A L ∧ W6.cell? ⟨w1.heap.size + 1, 0, none⟩ = some (.string vs) from
            have h1 : RnIn w wr.drew (w1.heap.size + 1) ⟨0, at_, l⟩ A L := HI.out.below (below_drewN (Below.refl _ _) 1)
            ⟨h1.below hb, (World.cell?_of_block (w := wr.drew) (hb.block _ hwb.lt)).trans c0'⟩)
          clear c0 hvs hvd hvs' hvb hvbz hvb4 hce hfin hwb hw1 hw2 HR0
          go_wp2_with fail
          go_region_with (refine (HV.out _).mono ?_; rintro x w6 ⟨rfl, hb6⟩; obtain ⟨h6, c6⟩ := HI6.out w6 hb6; obtain ⟨q0, q1, q2, p0', p1', p2', x1, y1, x2, y2, k2, l2, z0, z1, z2⟩ := fbox3 h6.rb (.int .i64 0) (.int .i64 0) (.int .i64 0); have HT := Lib.hid (((h6.pb.bel.setCell (p := ⟨w.heap.size, 0, none⟩) (Nat.le_refl _) (.int .i64 0)).setCell (p := ⟨w.heap.size, 1, none⟩) (Nat.le_refl _) (.int .i64 0)).setCell (p := ⟨w.heap.size, 2, none⟩) (Nat.le_refl _) (.int .i64 0)))
          all_goals
            go_wp2_with fail
            refine bodyPost_ret (v := .tuple #[.string cat, .agg #[.int .i64 0, .int .i64 0, .int .i64 0]]) (by simp [results, Tryz.results65, go_sem, z0, z1, z2]) rfl ?_
            rw [HQX.out, if_pos trivial, HFIN.out]
            exact ⟨0, 0, 0, rfl, rfl, fun h => absurd rfl h, HT.out⟩
        · have hnb : ((no : Int) == 0) = false := beq_eq_false_iff_ne.2 (by omega)
          have hni : ¬ ((no : Int) = 0) := by omega
          obtain rfl := hw2 hno
          have c2 := hwb.cell 2
          obtain ⟨q0, q1, q2, p0', p1', p2', x1, y1, x2, y2, k2, l2, z0, z1, z2⟩ := fbox3 HI.out.rb (.int .i64 no) (.int .i64 129) (.int .i64 a)
          have HT0 := ((HI.out.pb.bel.setCell (p := ⟨w.heap.size, 0, none⟩) (Nat.le_refl _) (.int .i64 no)).setCell (p := ⟨w.heap.size, 1, none⟩) (Nat.le_refl _) (.int .i64 129)).setCell (p := ⟨w.heap.size, 2, none⟩) (Nat.le_refl _) (.int .i64 a)
          have HT := Lib.hid (below_drewN HT0 1)
          have HNO := Lib.hid hno
          clear hwb hw1 hw2 HT0 HR0 hno
          go_wp2_with fail
          go_region
          all_goals
            go_wp2_with fail
            refine bodyPost_ret (v := .tuple #[.string ⟨#[]⟩, .agg #[.int .i64 no, .int .i64 129, .int .i64 a]]) (by simp [results, Tryz.results65, go_sem, z0, z1, z2]) rfl ?_
            rw [HQX.out, if_neg HNO.out]
            exact ⟨no, 129, a, rfl, rfl, fun _ => ⟨rfl, rfl⟩, HT.out⟩
  · have hcb : ((cn : Int) == 0) = false := beq_eq_false_iff_ne.2 (by omega)
    have hci : ¬ ((cn : Int) = 0) := by omega
    have hx : q = ⟨cn, cr, ca, []⟩ := by rw [HQ.out]; unfold encR; rw [← HCH.out, if_neg hcn]
    have HQX := Lib.hid hx
    have HCN := Lib.hid hcn
    clear hx hcn
    go_enter Tryz.func65, Tryz.ntmps65
    go_wp2_with fail
    refine HC.out.mono ?_
    rintro x w1 ⟨rfl, hb1⟩
    have hi1 := HI0.out.below hb1
    have hb2 : Below w1.heap.size w1 (w1.alloc (.cells #[.int .i64 cn, .int .i64 cr, .int .i64 ca] 34)) := (Below.refl _ _).alloc (Nat.le_refl _) _
    have hi2' := hi1.below hb2
    have hbk := Blk.made w1 34 #[.int .i64 cn, .int .i64 cr, .int .i64 ca]
    have f0 := hbk.cell 0
    have f1 := hbk.cell 1
    have f2 := hbk.cell 2
    obtain ⟨q0, q1, q2, p0', p1', p2', x1, y1, x2, y2, k2, l2, z0, z1, z2⟩ := fbox3 hi2'.box (.int .i64 cn) (.int .i64 cr) (.int .i64 ca)
    have HT0 := ((hi2'.pb.bel.setCell (p := ⟨w.heap.size, 0, none⟩) (Nat.le_refl _) (.int .i64 cn)).setCell (p := ⟨w.heap.size, 1, none⟩) (Nat.le_refl _) (.int .i64 cr)).setCell (p := ⟨w.heap.size, 2, none⟩) (Nat.le_refl _) (.int .i64 ca)
    have HT := Lib.hid (below_drewN HT0 1)
    clear HT0
    clear hb1 hi1 hb2 hi2' hbk HC HI0
    simp only at f0 ⊢
    go_wp2_with fail
    go_region
    all_goals
      go_wp2_with fail
      refine bodyPost_ret (v := .tuple #[.string ⟨#[]⟩, .agg #[.int .i64 cn, .int .i64 cr, .int .i64 ca]]) (by simp [results, Tryz.results65, go_sem, z0, z1, z2]) rfl ?_
      rw [HQX.out]
      exact ⟨cn, cr, ca, rfl, rfl, fun _ => ⟨rfl, rfl⟩, HT.out⟩
end
set_option maxRecDepth 100000
open Go.RowKit Go.Extern.Stop Go.Stop Go.Extern
theorem err_any0 {w : World} {S : Nat → Addr} {r r' : Int} {no a a' : Nat} {e : Value} (h : ErrOf w S r no a e) (hr : no ≠ 0 → r' = r ∧ a' = a) : ErrOf w S r' no a' e := by
  by_cases h0 : no = 0
  · unfold ErrOf at *
    rw [if_pos h0] at h ⊢
    exact h
  · obtain ⟨rfl, rfl⟩ := hr h0
    exact h
section
variable {w : World} {S : Nat → Addr} {A : Option Addr} {L : PL}
end
end Go.Proofs.YtnolnhpmpjgnaaaGreatDoor
