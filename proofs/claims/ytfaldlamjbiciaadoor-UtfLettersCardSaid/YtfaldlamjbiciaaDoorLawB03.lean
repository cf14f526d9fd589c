/- What is proved here: the statement UtfLetters answers true at every argument. Condition: what the rows list of the package's variables. -/
import Derived.Test.YtfaldlamjbiciaaDoorLawA03
import Derived.Deep.RegionHeld3
namespace Go.Proofs.YtfaldlamjbiciaaDoor
open Go.RowKit Go.Extern.Stop Go.Stop Go.Extern

/-- Bytes of a text, in a block of their own. -/
theorem bytes_made (w : World) (b : ByteArray) : ∃ cap w2, (convert 9 47 (.string b)).run Tryd.prog w = .ok (.slice (some ⟨w.heap.size, 0, none⟩) b.size cap) w2 ∧ b.size ≤ cap ∧
    (∀ j (hj : j < b.data.toList.length), w2.cell? ⟨w.heap.size, j, none⟩ = some (byteV b.data.toList[j])) ∧ (∀ j, j < b.size → w2.frozen? ⟨w.heap.size, j, none⟩ = false) ∧ Below w.heap.size w w2 := by
  refine ⟨_, _, run_bytes_of_string w 9 47 5 b Tryd.underlying9 Tryd.underlying47 Tryd.underlying5, grownCap_ge _ _ _ _, ?_, ?_, ?_⟩
  · intro j hj
    have h := (MapKept.heap_alloc w.drew (.cells (bytesRow b (grownCap w b.size 0 5)) 5 ((bytesRow b (grownCap w b.size 0 5)).size, (bytesRow b (grownCap w b.size 0 5)).size + 1))).1
    have hz : w.drew.heap.size = w.heap.size := rfl
    rw [hz] at h
    rw [cell_of_row _ _ _ _ _ _ h]
    have hj' : j < b.data.size := by rw [Array.length_toList] at hj; exact hj
    rw [bytesRow_at b _ j hj']
    rfl
  · intro j hj
    have h := (MapKept.heap_alloc w.drew (.cells (bytesRow b (grownCap w b.size 0 5)) 5 ((bytesRow b (grownCap w b.size 0 5)).size, (bytesRow b (grownCap w b.size 0 5)).size + 1))).1
    have hz : w.drew.heap.size = w.heap.size := rfl
    rw [hz] at h
    have hle : b.size ≤ (bytesRow b (grownCap w b.size 0 5)).size := by
      unfold bytesRow
      rw [Array.size_append, Array.size_map]
      show b.data.size ≤ _
      omega
    unfold World.frozen?
    dsimp only
    rw [h]
    simp
    intro h'
    omega
  · exact ((Below.refl _ _).drew).alloc (Nat.le_refl _) _
theorem set_list (l : List UInt8) (k : Nat) (y : UInt8) (g : Nat) (w : World) (hk : k < l.length) (hc : ∀ j (hj : j < l.length), w.cell? ⟨g, j, none⟩ = some (byteV l[j])) :
    ∀ j (hj : j < (l.set k y).length), (w.setCell ⟨g, k, none⟩ (byteV y)).cell? ⟨g, j, none⟩ = some (byteV (l.set k y)[j]) := by
  intro j hj
  have hj' : j < l.length := by rw [List.length_set] at hj; exact hj
  by_cases hjk : j = k
  · subst hjk
    rw [World.cell?_setCell_same _ _ _ (hc j hj'), List.getElem_set_self]
  · rw [World.cell?_setCell_other w ⟨g, k, none⟩ ⟨g, j, none⟩ (byteV y) (fun e => hjk (by injection e with _ e2; exact e2.symm)), hc j hj', List.getElem_set_ne (by omega)]
theorem conv_list (w : World) (l : List UInt8) (g cap L : Nat) (hL : l.length = L) (hc : ∀ j (hj : j < l.length), w.cell? ⟨g, j, none⟩ = some (byteV l[j])) :
    (convert 47 9 (.slice (some ⟨g, 0, none⟩) L cap)).run Tryd.prog w = .ok (.string ⟨l.toArray⟩) w := by
  subst hL
  refine run_convert_bytes_back w 47 9 5 ⟨g, 0, none⟩ cap l Tryd.underlying47 Tryd.underlying5 Tryd.underlying9 fun j hj => ?_
  rw [Go.WideShapes.add_plain, Nat.zero_add]
  exact hc j hj

structure Kept (W : World) (S : Nat → Addr) (w : World) : Prop where
  env : Env w S
  below : Below W.heap.size W w
theorem Kept.later {W : World} {S : Nat → Addr} {w w' : World} (h : Kept W S w) (hb : Below w.heap.size w w') : Kept W S w' := ⟨h.env.later hb, h.below.trans (hb.mono h.below.size)⟩
theorem Kept.drew {W : World} {S : Nat → Addr} {w : World} (h : Kept W S w) : Kept W S w.drew := h.later (Below.refl _ _).drew
theorem Kept.next {W : World} {S : Nat → Addr} {w w' : World} {p : Prop} (hb : Below w.heap.size w w') (h : p ∧ Kept W S w) : p ∧ Kept W S w' := ⟨h.1, h.2.later hb⟩
theorem Kept.drew' {W : World} {S : Nat → Addr} {w : World} {p : Prop} (h : p ∧ Kept W S w) : p ∧ Kept W S w.drew := ⟨h.1, h.2.drew⟩

set_option maxRecDepth 100000 in
set_option maxHeartbeats 1000000 in
theorem letters_none (S : Nat → Addr) (n : Int) (c y : Nat) (w : World) (h : Env w S) (hl : letB n = false) :
    Calls Tryd.prog 7 #[.int .i64 n, .int .u8 c, .int .u8 y] w fun x w' => x = .returned (.bool true) ∧ Below w.heap.size w w' := by
  have h1 := fun w => rf_bytes n w
  unfold BytesSays at h1
  rw [bytesOf_none hl] at h1
  have H1 := Lib.hid h1
  clear h1
  go_enter Tryd.func7, Tryd.ntmps7
  go_wp2_with fail
  refine (H1.out _).mono ?_
  rintro x w1 ⟨rfl, hb⟩
  have HE1 := Lib.hid (h.later hb)
  have HB1 := Lib.hid hb
  clear hb
  go_wp2_with fail
  refine (awake03 S _ HE1.out).mono ?_
  rintro x w2 ⟨rfl, hb⟩
  have HB2 := Lib.hid (HB1.out.trans (hb.mono HB1.out.size))
  clear hb
  go_wp2
  go_ret
  exact ⟨rfl, HB2.out⟩

set_option maxRecDepth 100000 in
set_option maxHeartbeats 4000000 in
theorem letters_z_ok (S : Nat → Addr) (n : Int) (c y : Nat) (w : World) (h : Env w S) (hl : letB n = true) (hc : c < 256) (hy : y < 256) (k : Nat) (hk : (c : Int) % (lenOf n.toNat : Int) = (k : Int)) (hk0 : k = 0)
    (hok : isB ⟨((bytesOf n).set k (UInt8.ofNat y)).toArray⟩ = true) :
    Calls Tryd.prog 7 #[.int .i64 n, .int .u8 c, .int .u8 y] w fun x w' => x = .returned (.bool true) ∧ Below w.heap.size w w' := by
  have hsz := size_bytes hl
  have hb := lenOf_bd n.toNat
  have hkl : k < lenOf n.toNat := by
    have := Int.emod_lt_of_pos (c : Int) (show (0 : Int) < (lenOf n.toNat : Int) by omega)
    omega
  have hne := str_full (bytes_ne0 hl)
  have hne2 : ((⟨(bytesOf n).toArray⟩ : ByteArray).toList.isEmpty) = false := by simpa using hne
  have h1 := fun w => rf_bytes n w
  unfold BytesSays at h1
  have h2 := fun w h => ut_letters S ⟨(bytesOf n).toArray⟩ w h (by omega)
  rw [check_bytes hl, (walk_bytes hl).2] at h2
  unfold LetterSays3 at h2
  have h2' : ∀ w, Env w S → Calls Tryd.prog 23 #[.string ⟨(bytesOf n).toArray⟩] w (fun x w' => ∃ e, x = .returned (.tuple #[.int .i64 1, e]) ∧ ErrOf w' S 129 0 0 e ∧ Below w.heap.size w w') := h2
  have hlen := bytesOf_len hl
  have htz : (⟨((bytesOf n).set k (UInt8.ofNat y)).toArray⟩ : ByteArray).size ≤ 4611686018427387903 := by
    show ((bytesOf n).set k (UInt8.ofNat y)).toArray.size ≤ _
    rw [List.size_toArray, List.length_set]; omega
  have h4' : ∀ w, Env w S → Calls Tryd.prog 21 #[.string ⟨((bytesOf n).set k (UInt8.ofNat y)).toArray⟩] w (fun x w' => x = .returned .nilIface ∧ Below w.heap.size w w') := by
    intro w h
    refine (ut_check S _ w h htz).mono ?_
    rintro x w' ⟨e, rfl, he, hb⟩
    have hz : checkOf ⟨((bytesOf n).set k (UInt8.ofNat y)).toArray⟩ = (0, 0) := (check_zero (by simpa [isB] using hok)).2.2
    rw [hz] at he
    obtain rfl : e = .nilIface := he
    exact ⟨rfl, hb⟩
  have h5 := fun w => rf_is ⟨((bytesOf n).set k (UInt8.ofNat y)).toArray⟩ w htz
  rw [hok] at h5
  have h6 := fun l g w hk hc => set_list l k (UInt8.ofNat y) g w hk hc
  have hyv : byteV (UInt8.ofNat y) = .int .u8 (y : Int) := byteV_of hy
  rw [hyv] at h6
  have H1 := Lib.hid h1
  have H2 := Lib.hid h2'
  have H4 := Lib.hid h4'
  have H5 := Lib.hid h5
  have H6 := Lib.hid h6
  have HA := Lib.hid (fun w h => awake03 S w h)
  have h7 := fun w g cap hc => conv_list w ((bytesOf n).set k (UInt8.ofNat y)) g cap (lenOf n.toNat) (by rw [List.length_set]; exact hlen) hc
  have H7 := Lib.hid h7
  have HL := Lib.hid hlen
  have hbd : (⟨(bytesOf n).toArray⟩ : ByteArray).data.toList = bytesOf n := rfl
  have HBD := Lib.hid hbd
  clear h1 h2 h2' h4' h5 h6 h7 hok hyv htz hlen hbd
  rw [← hsz] at hk hb hkl H7 HL
  generalize hbb : (⟨(bytesOf n).toArray⟩ : ByteArray) = b at *
  generalize (⟨((bytesOf n).set k (UInt8.ofNat y)).toArray⟩ : ByteArray) = t at *
  generalize bytesOf n = l at *
  clear hsz hbb
  obtain ⟨hb1, hb4⟩ := hb
  have h0 : (0 : Int) < (b.size : Int) := by omega
  subst hk0
  have hk' : (c : Int) % (b.size : Int) = 0 := hk
  clear hk
  have HK := Lib.hid hk'
  clear hk'
  go_enter Tryd.func7, Tryd.ntmps7
  go_wp2_with fail
  refine (H1.out _).mono ?_
  rintro x w1 ⟨rfl, hb⟩
  have HE1 := Lib.hid (h.later hb)
  have HB1 := Lib.hid hb
  clear hb
  obtain ⟨cap, w2, hrun, hcap, hcell, hfro, hbel⟩ := bytes_made w1 b
  rw [HBD.out] at hcell
  have hck := hcell 0 (by rw [HL.out]; exact hkl)
  have hfk := hfro 0 hkl
  have hset := H6.out l w1.heap.size w2 (by rw [HL.out]; exact hkl) hcell
  have hconv := H7.out _ w1.heap.size cap hset
  have hgw : w.heap.size ≤ w1.heap.size := HB1.out.size
  have HB3 := Lib.hid ((HB1.out.trans (hbel.mono HB1.out.size)).setCell (p := ⟨w1.heap.size, 0, none⟩) hgw (.int .u8 (y : Int)))
  have HE3 := Lib.hid (HE1.out.later (hbel.setCell (p := ⟨w1.heap.size, 0, none⟩) (Nat.le_refl _) (.int .u8 (y : Int))))
  have hmod := HK.out
  clear hset hcell hfro hbel
  go_wp2_with fail
  refine (H2.out _ HE3.out).mono ?_
  rintro x w4 ⟨e4, rfl, he, hb⟩
  obtain rfl : e4 = .nilIface := he
  have HE4 := Lib.hid (HE3.out.later hb)
  have HB4 := Lib.hid (HB3.out.trans (hb.mono HB3.out.size))
  clear hb hconv hck hfk hrun hmod
  go_wp2_with fail
  rw [HK.out]
  have hkept : True ∧ Kept w S w4 := ⟨trivial, HE4.out, HB4.out⟩
  refine wp_region_held_drew (S := fun w' => True ∧ Kept w S w') (by kernel_rfl) ?_ (fun hHeld => ?_)
  · (first | assumption | (exact Kept.drew' (by assumption)) | (exact Kept.next (by assumption) (by assumption)))
  refine wpAnyH_take (i := 0) (oi := { dst := some 36, op := Op.move (Operand.tmp 11), type := 3, pos := _, after := _, guard := none }) (v := .int .i64 1) rfl (by kernel_rfl) (by kernel_rfl) (by kernel_rfl) (fun _ _ _ h => h) (Or.inl ⟨by rfl, fun w' _ => ?_⟩) (by assumption) ?_
  · go_simp
  simp only [Act.put, List.setIfInBounds_toArray, List.set_cons_zero, List.set_cons_succ]
  refine wpAnyH_take (i := 1) (oi := { dst := some 37, op := Op.binOp BinOp.eql 3 (Operand.tmp 36) (Operand.const (Value.int IntKind.i64 1)) 3, type := 4, pos := _, after := _, guard := none }) (v := .bool true) rfl (by kernel_rfl) (by kernel_rfl) (by kernel_rfl) (fun _ _ _ h => h) (Or.inl ⟨by rfl, fun w' _ => ?_⟩) (by assumption) ?_
  · go_simp
  simp only [Act.put, List.setIfInBounds_toArray, List.set_cons_zero, List.set_cons_succ]
  refine wpAnyH_take (i := 2) (oi := { dst := some 38, op := Op.move (Operand.tmp 37), type := 4, pos := _, after := _, guard := none }) (v := .bool true) rfl (by kernel_rfl) (by kernel_rfl) (by kernel_rfl) (fun _ _ _ h => h) (Or.inl ⟨by rfl, fun w' _ => ?_⟩) (by assumption) ?_
  · go_simp
  simp only [Act.put, List.setIfInBounds_toArray, List.set_cons_zero, List.set_cons_succ]
  refine wpAnyH_take (i := 3) (oi := { dst := some 39, op := Op.move (Operand.tmp 12), type := 23, pos := _, after := _, guard := some (2, true) }) (v := .nilIface) rfl (by kernel_rfl) (by kernel_rfl) (by kernel_rfl) (fun _ _ _ h => h) (Or.inl ⟨by rfl, fun w' _ => ?_⟩) (by assumption) ?_
  · go_simp
  simp only [Act.put, List.setIfInBounds_toArray, List.set_cons_zero, List.set_cons_succ]
  refine wpAnyH_take (i := 4) (oi := { dst := some 40, op := Op.binOp BinOp.eql 23 (Operand.tmp 39) (Operand.const Value.nilIface) 23, type := 4, pos := _, after := _, guard := some (2, true) }) (v := .bool true) rfl (by kernel_rfl) (by kernel_rfl) (by kernel_rfl) (fun _ _ _ h => h) (Or.inl ⟨by rfl, fun w' _ => ?_⟩) (by assumption) ?_
  · go_simp
  simp only [Act.put, List.setIfInBounds_toArray, List.set_cons_zero, List.set_cons_succ]
  refine wpAnyH_take (i := 5) (oi := { dst := some 41, op := Op.pick (Operand.tmp 38) (Operand.tmp 40) (Operand.const (Value.bool false)), type := 4, pos := _, after := _, guard := none }) (v := .bool true) rfl (by kernel_rfl) (by kernel_rfl) (by kernel_rfl) (fun _ _ _ h => h) (Or.inl ⟨by rfl, fun w' _ => ?_⟩) (by assumption) ?_
  · go_simp
  simp only [Act.put, List.setIfInBounds_toArray, List.set_cons_zero, List.set_cons_succ]
  refine wpAnyH_take (i := 6) (oi := { dst := some 42, op := Op.move (Operand.tmp 41), type := 4, pos := _, after := _, guard := none }) (v := .bool true) rfl (by kernel_rfl) (by kernel_rfl) (by kernel_rfl) (fun _ _ _ h => h) (Or.inl ⟨by rfl, fun w' _ => ?_⟩) (by assumption) ?_
  · go_simp
  simp only [Act.put, List.setIfInBounds_toArray, List.set_cons_zero, List.set_cons_succ]
  refine wpAnyH_take (i := 7) (oi := { dst := some 43, op := Op.move (Operand.tmp 8), type := 3, pos := _, after := _, guard := some (6, true) }) (v := .int .i64 0) rfl (by kernel_rfl) (by kernel_rfl) (by kernel_rfl) (fun _ _ _ h => h) (Or.inl ⟨by rfl, fun w' _ => ?_⟩) (by assumption) ?_
  · go_simp
  simp only [Act.put, List.setIfInBounds_toArray, List.set_cons_zero, List.set_cons_succ]
  refine wpAnyH_take (i := 8) (oi := { dst := some 44, op := Op.binOp BinOp.eql 3 (Operand.tmp 43) (Operand.const (Value.int IntKind.i64 0)) 3, type := 4, pos := _, after := _, guard := some (6, true) }) (v := .bool true) rfl (by kernel_rfl) (by kernel_rfl) (by kernel_rfl) (fun _ _ _ h => h) (Or.inl ⟨by rfl, fun w' _ => ?_⟩) (by assumption) ?_
  · go_simp
  simp only [Act.put, List.setIfInBounds_toArray, List.set_cons_zero, List.set_cons_succ]
  refine wpAnyH_take (i := 9) (oi := { dst := some 45, op := Op.move (Operand.tmp 44), type := 4, pos := _, after := _, guard := some (6, true) }) (v := .bool true) rfl (by kernel_rfl) (by kernel_rfl) (by kernel_rfl) (fun _ _ _ h => h) (Or.inl ⟨by rfl, fun w' _ => ?_⟩) (by assumption) ?_
  · go_simp
  simp only [Act.put, List.setIfInBounds_toArray, List.set_cons_zero, List.set_cons_succ]
  refine wpAnyH_take (i := 10) (oi := { dst := some 46, op := Op.move (Operand.tmp 7), type := 9, pos := _, after := _, guard := some (9, false) }) (v := undef) rfl (by kernel_rfl) (by kernel_rfl) (by kernel_rfl) (fun _ _ _ h => h) (Or.inr ⟨by rfl, rfl⟩) (by assumption) ?_
  simp only [Act.put, List.setIfInBounds_toArray, List.set_cons_zero, List.set_cons_succ]
  refine wpAnyH_take (i := 11) (oi := { dst := some 47, op := Op.move (Operand.tmp 8), type := 3, pos := _, after := _, guard := some (9, false) }) (v := undef) rfl (by kernel_rfl) (by kernel_rfl) (by kernel_rfl) (fun _ _ _ h => h) (Or.inr ⟨by rfl, rfl⟩) (by assumption) ?_
  simp only [Act.put, List.setIfInBounds_toArray, List.set_cons_zero, List.set_cons_succ]
  refine wpAnyH_take (i := 12) (oi := { dst := some 48, op := Op.slice 9 (Operand.tmp 46) none (some (Operand.tmp 47)) none, type := 9, pos := _, after := _, guard := some (9, false) }) (v := undef) rfl (by kernel_rfl) (by kernel_rfl) (by kernel_rfl) (fun _ _ _ h => h) (Or.inr ⟨by rfl, rfl⟩) (by assumption) ?_
  simp only [Act.put, List.setIfInBounds_toArray, List.set_cons_zero, List.set_cons_succ]
  refine wpAnyH_take (i := 13) (oi := { dst := some 49, op := Op.call { callee := Callee.value (Operand.func 21), args := #[Operand.tmp 48], argTypes := #[9] }, type := 23, pos := _, after := _, guard := some (9, false) }) (v := undef) rfl (by kernel_rfl) (by kernel_rfl) (by kernel_rfl) (fun _ _ _ h => h) (Or.inr ⟨by rfl, rfl⟩) (by assumption) ?_
  simp only [Act.put, List.setIfInBounds_toArray, List.set_cons_zero, List.set_cons_succ]
  refine wpAnyH_take (i := 14) (oi := { dst := some 50, op := Op.binOp BinOp.neq 23 (Operand.tmp 49) (Operand.const Value.nilIface) 23, type := 4, pos := _, after := _, guard := some (9, false) }) (v := undef) rfl (by kernel_rfl) (by kernel_rfl) (by kernel_rfl) (fun _ _ _ h => h) (Or.inr ⟨by rfl, rfl⟩) (by assumption) ?_
  simp only [Act.put, List.setIfInBounds_toArray, List.set_cons_zero, List.set_cons_succ]
  refine wpAnyH_take (i := 15) (oi := { dst := some 51, op := Op.pick (Operand.tmp 45) (Operand.const (Value.bool true)) (Operand.tmp 50), type := 4, pos := _, after := _, guard := some (6, true) }) (v := .bool true) rfl (by kernel_rfl) (by kernel_rfl) (by kernel_rfl) (fun _ _ _ h => h) (Or.inl ⟨by rfl, fun w' _ => ?_⟩) (by assumption) ?_
  · go_simp
  simp only [Act.put, List.setIfInBounds_toArray, List.set_cons_zero, List.set_cons_succ]
  refine wpAnyH_take (i := 16) (oi := { dst := some 52, op := Op.pick (Operand.tmp 42) (Operand.tmp 51) (Operand.const (Value.bool false)), type := 4, pos := _, after := _, guard := none }) (v := .bool true) rfl (by kernel_rfl) (by kernel_rfl) (by kernel_rfl) (fun _ _ _ h => h) (Or.inl ⟨by rfl, fun w' _ => ?_⟩) (by assumption) ?_
  · go_simp
  simp only [Act.put, List.setIfInBounds_toArray, List.set_cons_zero, List.set_cons_succ]
  refine wpAnyH_take (i := 17) (oi := { dst := some 53, op := Op.move (Operand.tmp 52), type := 4, pos := _, after := _, guard := none }) (v := .bool true) rfl (by kernel_rfl) (by kernel_rfl) (by kernel_rfl) (fun _ _ _ h => h) (Or.inl ⟨by rfl, fun w' _ => ?_⟩) (by assumption) ?_
  · go_simp
  simp only [Act.put, List.setIfInBounds_toArray, List.set_cons_zero, List.set_cons_succ]
  refine wpAnyH_take (i := 18) (oi := { dst := some 54, op := Op.move (Operand.tmp 10), type := 9, pos := _, after := _, guard := some (17, true) }) (v := .string t) rfl (by kernel_rfl) (by kernel_rfl) (by kernel_rfl) (fun _ _ _ h => h) (Or.inl ⟨by rfl, fun w' _ => ?_⟩) (by assumption) ?_
  · go_simp
  simp only [Act.put, List.setIfInBounds_toArray, List.set_cons_zero, List.set_cons_succ]
  refine wpAnyH_take (i := 21) (oi := { dst := some 57, op := Op.move (Operand.tmp 10), type := 9, pos := _, after := _, guard := some (17, true) }) (v := .string t) rfl (by kernel_rfl) (by kernel_rfl) (by kernel_rfl) (fun _ _ _ h => h) (Or.inl ⟨by rfl, fun w' _ => ?_⟩) (by assumption) ?_
  · go_simp
  simp only [Act.put, List.setIfInBounds_toArray, List.set_cons_zero, List.set_cons_succ]
  refine wpAnyH_ready (rs := [19]) (by kernel_rfl) (by simp) ?_
  refine AllReadyH.cons (o := { dst := some 55, op := Op.call { callee := Callee.value (Operand.func 21), args := #[Operand.tmp 54], argTypes := #[9] }, type := 23, pos := _, after := _, guard := some (17, true) }) rfl (fun K hK => ?_) AllReadyH.nil
  go_simp
  go_at_call 21
  (with_reducible refine (H4.out _ ?_).mono ?_)
  exact Kept.env (And.right (by assumption))
  rintro x w6 ⟨rfl, hb⟩
  go_wp2_with fail
  refine hK.out _ _ ?_ (fun hHeld19 => ?_)
  · (first | assumption | (exact Kept.drew' (by assumption)) | (exact Kept.next (by assumption) (by assumption)))
  clear hK K
  try simp only [Act.put, List.setIfInBounds_toArray, List.set_cons_zero, List.set_cons_succ]
  refine wpAnyH_take (i := 20) (oi := { dst := some 56, op := Op.binOp BinOp.eql 23 (Operand.tmp 55) (Operand.const Value.nilIface) 23, type := 4, pos := _, after := _, guard := some (17, true) }) (v := .bool true) rfl (by kernel_rfl) (by kernel_rfl) (by kernel_rfl) (fun _ _ _ h => h) (Or.inl ⟨by rfl, fun w' _ => ?_⟩) (by assumption) ?_
  · go_simp
  simp only [Act.put, List.setIfInBounds_toArray, List.set_cons_zero, List.set_cons_succ]
  refine wpAnyH_ready (rs := [22]) (by kernel_rfl) (by simp) ?_
  refine AllReadyH.cons (o := { dst := some 58, op := Op.call { callee := Callee.value (Operand.func 28), args := #[Operand.tmp 57], argTypes := #[9] }, type := 4, pos := _, after := _, guard := some (17, true) }) rfl (fun K hK => ?_) AllReadyH.nil
  go_simp
  go_at_call 28
  (with_reducible refine (H5.out _).mono ?_)
  rintro x w7 ⟨rfl, hb⟩
  go_wp2_with fail
  refine hK.out _ _ ?_ (fun hHeld22 => ?_)
  · (first | assumption | (exact Kept.drew' (by assumption)) | (exact Kept.next (by assumption) (by assumption)))
  clear hK K
  try simp only [Act.put, List.setIfInBounds_toArray, List.set_cons_zero, List.set_cons_succ]
  refine wpAnyH_take (i := 23) (oi := { dst := some 59, op := Op.binOp BinOp.eql 4 (Operand.tmp 56) (Operand.tmp 58) 4, type := 4, pos := _, after := _, guard := some (17, true) }) (v := .bool true) rfl (by kernel_rfl) (by kernel_rfl) (by kernel_rfl) (fun _ _ _ h => h) (Or.inl ⟨by rfl, fun w' _ => ?_⟩) (by assumption) ?_
  · go_simp
  simp only [Act.put, List.setIfInBounds_toArray, List.set_cons_zero, List.set_cons_succ]
  refine wpAnyH_take (i := 24) (oi := { dst := some 60, op := Op.pick (Operand.tmp 53) (Operand.tmp 59) (Operand.const (Value.bool false)), type := 4, pos := _, after := _, guard := none }) (v := .bool true) rfl (by kernel_rfl) (by kernel_rfl) (by kernel_rfl) (fun _ _ _ h => h) (Or.inl ⟨by rfl, fun w' _ => ?_⟩) (by assumption) ?_
  · go_simp
  simp only [Act.put, List.setIfInBounds_toArray, List.set_cons_zero, List.set_cons_succ]
  refine wpAnyH_take (i := 25) (oi := { dst := some 61, op := Op.move (Operand.tmp 60), type := 4, pos := _, after := _, guard := none }) (v := .bool true) rfl (by kernel_rfl) (by kernel_rfl) (by kernel_rfl) (fun _ _ _ h => h) (Or.inl ⟨by rfl, fun w' _ => ?_⟩) (by assumption) ?_
  · go_simp
  simp only [Act.put, List.setIfInBounds_toArray, List.set_cons_zero, List.set_cons_succ]
  refine wpAnyH_ready (rs := [26]) (by kernel_rfl) (by simp) ?_
  refine AllReadyH.cons (o := { dst := some 62, op := Op.call { callee := Callee.value (Operand.func 20), args := #[], argTypes := #[] }, type := 4, pos := _, after := _, guard := some (25, true) }) rfl (fun K hK => ?_) AllReadyH.nil
  go_simp
  go_at_call 20
  (with_reducible refine (HA.out _ ?_).mono ?_)
  exact Kept.env (And.right (by assumption))
  rintro x w8 ⟨rfl, hb⟩
  go_wp2_with fail
  refine hK.out _ _ ?_ (fun hHeld26 => ?_)
  · (first | assumption | (exact Kept.drew' (by assumption)) | (exact Kept.next (by assumption) (by assumption)))
  clear hK K
  try simp only [Act.put, List.setIfInBounds_toArray, List.set_cons_zero, List.set_cons_succ]
  refine wpAnyH_take (i := 27) (oi := { dst := some 63, op := Op.pick (Operand.tmp 61) (Operand.tmp 62) (Operand.const (Value.bool false)), type := 4, pos := _, after := _, guard := none }) (v := .bool true) rfl (by kernel_rfl) (by kernel_rfl) (by kernel_rfl) (fun _ _ _ h => h) (Or.inl ⟨by rfl, fun w' _ => ?_⟩) (by assumption) ?_
  · go_simp
  simp only [Act.put, List.setIfInBounds_toArray, List.set_cons_zero, List.set_cons_succ]
  refine wpAnyH_take (i := 28) (oi := { dst := some 6, op := Op.assign (Operand.tmp 63), type := 4, pos := _, after := _, guard := none }) (v := .bool true) rfl (by kernel_rfl) (by kernel_rfl) (by kernel_rfl) (fun _ _ _ h => h) (Or.inl ⟨by rfl, fun w' _ => ?_⟩) (by assumption) ?_
  · go_simp
  simp only [Act.put, List.setIfInBounds_toArray, List.set_cons_zero, List.set_cons_succ]
  refine wpAnyH_done (by kernel_rfl) ?_ _
  go_wp2
  go_ret
  exact ⟨rfl, Kept.below (And.right (by assumption))⟩

set_option maxRecDepth 100000 in
set_option maxHeartbeats 4000000 in
theorem letters_z_bad (S : Nat → Addr) (n : Int) (c y : Nat) (w : World) (h : Env w S) (hl : letB n = true) (hc : c < 256) (hy : y < 256) (k : Nat) (hk : (c : Int) % (lenOf n.toNat : Int) = (k : Int)) (hk0 : k = 0)
    (hok : isB ⟨((bytesOf n).set k (UInt8.ofNat y)).toArray⟩ = false) :
    Calls Tryd.prog 7 #[.int .i64 n, .int .u8 c, .int .u8 y] w fun x w' => x = .returned (.bool true) ∧ Below w.heap.size w w' := by
  have hsz := size_bytes hl
  have hb := lenOf_bd n.toNat
  have hkl : k < lenOf n.toNat := by
    have := Int.emod_lt_of_pos (c : Int) (show (0 : Int) < (lenOf n.toNat : Int) by omega)
    omega
  have hne := str_full (bytes_ne0 hl)
  have hne2 : ((⟨(bytesOf n).toArray⟩ : ByteArray).toList.isEmpty) = false := by simpa using hne
  have h1 := fun w => rf_bytes n w
  unfold BytesSays at h1
  have h2 := fun w h => ut_letters S ⟨(bytesOf n).toArray⟩ w h (by omega)
  rw [check_bytes hl, (walk_bytes hl).2] at h2
  unfold LetterSays3 at h2
  have h2' : ∀ w, Env w S → Calls Tryd.prog 23 #[.string ⟨(bytesOf n).toArray⟩] w (fun x w' => ∃ e, x = .returned (.tuple #[.int .i64 1, e]) ∧ ErrOf w' S 129 0 0 e ∧ Below w.heap.size w w') := h2
  have hlen := bytesOf_len hl
  have htz : (⟨((bytesOf n).set k (UInt8.ofNat y)).toArray⟩ : ByteArray).size ≤ 4611686018427387903 := by
    show ((bytesOf n).set k (UInt8.ofNat y)).toArray.size ≤ _
    rw [List.size_toArray, List.length_set]; omega
  have h4' : ∀ w, Env w S → Calls Tryd.prog 21 #[.string ⟨((bytesOf n).set k (UInt8.ofNat y)).toArray⟩] w (fun x w' => ∃ t v, x = .returned (.iface t v) ∧ Below w.heap.size w w') := by
    intro w h
    refine (ut_check S _ w h htz).mono ?_
    rintro x w' ⟨e, rfl, he, hb⟩
    obtain ⟨t, v, rfl⟩ := (he.is (by simpa [isB] using hok)).iface
    exact ⟨t, v, rfl, hb⟩
  have h5 := fun w => rf_is ⟨((bytesOf n).set k (UInt8.ofNat y)).toArray⟩ w htz
  rw [hok] at h5
  have h6 := fun l g w hk hc => set_list l k (UInt8.ofNat y) g w hk hc
  have hyv : byteV (UInt8.ofNat y) = .int .u8 (y : Int) := byteV_of hy
  rw [hyv] at h6
  have H1 := Lib.hid h1
  have H2 := Lib.hid h2'
  have H4 := Lib.hid h4'
  have H5 := Lib.hid h5
  have H6 := Lib.hid h6
  have HA := Lib.hid (fun w h => awake03 S w h)
  have h7 := fun w g cap hc => conv_list w ((bytesOf n).set k (UInt8.ofNat y)) g cap (lenOf n.toNat) (by rw [List.length_set]; exact hlen) hc
  have H7 := Lib.hid h7
  have HL := Lib.hid hlen
  have hbd : (⟨(bytesOf n).toArray⟩ : ByteArray).data.toList = bytesOf n := rfl
  have HBD := Lib.hid hbd
  clear h1 h2 h2' h4' h5 h6 h7 hok hyv htz hlen hbd
  rw [← hsz] at hk hb hkl H7 HL
  generalize hbb : (⟨(bytesOf n).toArray⟩ : ByteArray) = b at *
  generalize (⟨((bytesOf n).set k (UInt8.ofNat y)).toArray⟩ : ByteArray) = t at *
  generalize bytesOf n = l at *
  clear hsz hbb
  obtain ⟨hb1, hb4⟩ := hb
  have h0 : (0 : Int) < (b.size : Int) := by omega
  subst hk0
  have hk' : (c : Int) % (b.size : Int) = 0 := hk
  clear hk
  have HK := Lib.hid hk'
  clear hk'
  go_enter Tryd.func7, Tryd.ntmps7
  go_wp2_with fail
  refine (H1.out _).mono ?_
  rintro x w1 ⟨rfl, hb⟩
  have HE1 := Lib.hid (h.later hb)
  have HB1 := Lib.hid hb
  clear hb
  obtain ⟨cap, w2, hrun, hcap, hcell, hfro, hbel⟩ := bytes_made w1 b
  rw [HBD.out] at hcell
  have hck := hcell 0 (by rw [HL.out]; exact hkl)
  have hfk := hfro 0 hkl
  have hset := H6.out l w1.heap.size w2 (by rw [HL.out]; exact hkl) hcell
  have hconv := H7.out _ w1.heap.size cap hset
  have hgw : w.heap.size ≤ w1.heap.size := HB1.out.size
  have HB3 := Lib.hid ((HB1.out.trans (hbel.mono HB1.out.size)).setCell (p := ⟨w1.heap.size, 0, none⟩) hgw (.int .u8 (y : Int)))
  have HE3 := Lib.hid (HE1.out.later (hbel.setCell (p := ⟨w1.heap.size, 0, none⟩) (Nat.le_refl _) (.int .u8 (y : Int))))
  have hmod := HK.out
  clear hset hcell hfro hbel
  go_wp2_with fail
  refine (H2.out _ HE3.out).mono ?_
  rintro x w4 ⟨e4, rfl, he, hb⟩
  obtain rfl : e4 = .nilIface := he
  have HE4 := Lib.hid (HE3.out.later hb)
  have HB4 := Lib.hid (HB3.out.trans (hb.mono HB3.out.size))
  clear hb hconv hck hfk hrun hmod
  go_wp2_with fail
  rw [HK.out]
  have hkept : True ∧ Kept w S w4 := ⟨trivial, HE4.out, HB4.out⟩
  refine wp_region_held_drew (S := fun w' => True ∧ Kept w S w') (by kernel_rfl) ?_ (fun hHeld => ?_)
  · (first | assumption | (exact Kept.drew' (by assumption)) | (exact Kept.next (by assumption) (by assumption)))
  refine wpAnyH_take (i := 0) (oi := { dst := some 36, op := Op.move (Operand.tmp 11), type := 3, pos := _, after := _, guard := none }) (v := .int .i64 1) rfl (by kernel_rfl) (by kernel_rfl) (by kernel_rfl) (fun _ _ _ h => h) (Or.inl ⟨by rfl, fun w' _ => ?_⟩) (by assumption) ?_
  · go_simp
  simp only [Act.put, List.setIfInBounds_toArray, List.set_cons_zero, List.set_cons_succ]
  refine wpAnyH_take (i := 1) (oi := { dst := some 37, op := Op.binOp BinOp.eql 3 (Operand.tmp 36) (Operand.const (Value.int IntKind.i64 1)) 3, type := 4, pos := _, after := _, guard := none }) (v := .bool true) rfl (by kernel_rfl) (by kernel_rfl) (by kernel_rfl) (fun _ _ _ h => h) (Or.inl ⟨by rfl, fun w' _ => ?_⟩) (by assumption) ?_
  · go_simp
  simp only [Act.put, List.setIfInBounds_toArray, List.set_cons_zero, List.set_cons_succ]
  refine wpAnyH_take (i := 2) (oi := { dst := some 38, op := Op.move (Operand.tmp 37), type := 4, pos := _, after := _, guard := none }) (v := .bool true) rfl (by kernel_rfl) (by kernel_rfl) (by kernel_rfl) (fun _ _ _ h => h) (Or.inl ⟨by rfl, fun w' _ => ?_⟩) (by assumption) ?_
  · go_simp
  simp only [Act.put, List.setIfInBounds_toArray, List.set_cons_zero, List.set_cons_succ]
  refine wpAnyH_take (i := 3) (oi := { dst := some 39, op := Op.move (Operand.tmp 12), type := 23, pos := _, after := _, guard := some (2, true) }) (v := .nilIface) rfl (by kernel_rfl) (by kernel_rfl) (by kernel_rfl) (fun _ _ _ h => h) (Or.inl ⟨by rfl, fun w' _ => ?_⟩) (by assumption) ?_
  · go_simp
  simp only [Act.put, List.setIfInBounds_toArray, List.set_cons_zero, List.set_cons_succ]
  refine wpAnyH_take (i := 4) (oi := { dst := some 40, op := Op.binOp BinOp.eql 23 (Operand.tmp 39) (Operand.const Value.nilIface) 23, type := 4, pos := _, after := _, guard := some (2, true) }) (v := .bool true) rfl (by kernel_rfl) (by kernel_rfl) (by kernel_rfl) (fun _ _ _ h => h) (Or.inl ⟨by rfl, fun w' _ => ?_⟩) (by assumption) ?_
  · go_simp
  simp only [Act.put, List.setIfInBounds_toArray, List.set_cons_zero, List.set_cons_succ]
  refine wpAnyH_take (i := 5) (oi := { dst := some 41, op := Op.pick (Operand.tmp 38) (Operand.tmp 40) (Operand.const (Value.bool false)), type := 4, pos := _, after := _, guard := none }) (v := .bool true) rfl (by kernel_rfl) (by kernel_rfl) (by kernel_rfl) (fun _ _ _ h => h) (Or.inl ⟨by rfl, fun w' _ => ?_⟩) (by assumption) ?_
  · go_simp
  simp only [Act.put, List.setIfInBounds_toArray, List.set_cons_zero, List.set_cons_succ]
  refine wpAnyH_take (i := 6) (oi := { dst := some 42, op := Op.move (Operand.tmp 41), type := 4, pos := _, after := _, guard := none }) (v := .bool true) rfl (by kernel_rfl) (by kernel_rfl) (by kernel_rfl) (fun _ _ _ h => h) (Or.inl ⟨by rfl, fun w' _ => ?_⟩) (by assumption) ?_
  · go_simp
  simp only [Act.put, List.setIfInBounds_toArray, List.set_cons_zero, List.set_cons_succ]
  refine wpAnyH_take (i := 7) (oi := { dst := some 43, op := Op.move (Operand.tmp 8), type := 3, pos := _, after := _, guard := some (6, true) }) (v := .int .i64 0) rfl (by kernel_rfl) (by kernel_rfl) (by kernel_rfl) (fun _ _ _ h => h) (Or.inl ⟨by rfl, fun w' _ => ?_⟩) (by assumption) ?_
  · go_simp
  simp only [Act.put, List.setIfInBounds_toArray, List.set_cons_zero, List.set_cons_succ]
  refine wpAnyH_take (i := 8) (oi := { dst := some 44, op := Op.binOp BinOp.eql 3 (Operand.tmp 43) (Operand.const (Value.int IntKind.i64 0)) 3, type := 4, pos := _, after := _, guard := some (6, true) }) (v := .bool true) rfl (by kernel_rfl) (by kernel_rfl) (by kernel_rfl) (fun _ _ _ h => h) (Or.inl ⟨by rfl, fun w' _ => ?_⟩) (by assumption) ?_
  · go_simp
  simp only [Act.put, List.setIfInBounds_toArray, List.set_cons_zero, List.set_cons_succ]
  refine wpAnyH_take (i := 9) (oi := { dst := some 45, op := Op.move (Operand.tmp 44), type := 4, pos := _, after := _, guard := some (6, true) }) (v := .bool true) rfl (by kernel_rfl) (by kernel_rfl) (by kernel_rfl) (fun _ _ _ h => h) (Or.inl ⟨by rfl, fun w' _ => ?_⟩) (by assumption) ?_
  · go_simp
  simp only [Act.put, List.setIfInBounds_toArray, List.set_cons_zero, List.set_cons_succ]
  refine wpAnyH_take (i := 10) (oi := { dst := some 46, op := Op.move (Operand.tmp 7), type := 9, pos := _, after := _, guard := some (9, false) }) (v := undef) rfl (by kernel_rfl) (by kernel_rfl) (by kernel_rfl) (fun _ _ _ h => h) (Or.inr ⟨by rfl, rfl⟩) (by assumption) ?_
  simp only [Act.put, List.setIfInBounds_toArray, List.set_cons_zero, List.set_cons_succ]
  refine wpAnyH_take (i := 11) (oi := { dst := some 47, op := Op.move (Operand.tmp 8), type := 3, pos := _, after := _, guard := some (9, false) }) (v := undef) rfl (by kernel_rfl) (by kernel_rfl) (by kernel_rfl) (fun _ _ _ h => h) (Or.inr ⟨by rfl, rfl⟩) (by assumption) ?_
  simp only [Act.put, List.setIfInBounds_toArray, List.set_cons_zero, List.set_cons_succ]
  refine wpAnyH_take (i := 12) (oi := { dst := some 48, op := Op.slice 9 (Operand.tmp 46) none (some (Operand.tmp 47)) none, type := 9, pos := _, after := _, guard := some (9, false) }) (v := undef) rfl (by kernel_rfl) (by kernel_rfl) (by kernel_rfl) (fun _ _ _ h => h) (Or.inr ⟨by rfl, rfl⟩) (by assumption) ?_
  simp only [Act.put, List.setIfInBounds_toArray, List.set_cons_zero, List.set_cons_succ]
  refine wpAnyH_take (i := 13) (oi := { dst := some 49, op := Op.call { callee := Callee.value (Operand.func 21), args := #[Operand.tmp 48], argTypes := #[9] }, type := 23, pos := _, after := _, guard := some (9, false) }) (v := undef) rfl (by kernel_rfl) (by kernel_rfl) (by kernel_rfl) (fun _ _ _ h => h) (Or.inr ⟨by rfl, rfl⟩) (by assumption) ?_
  simp only [Act.put, List.setIfInBounds_toArray, List.set_cons_zero, List.set_cons_succ]
  refine wpAnyH_take (i := 14) (oi := { dst := some 50, op := Op.binOp BinOp.neq 23 (Operand.tmp 49) (Operand.const Value.nilIface) 23, type := 4, pos := _, after := _, guard := some (9, false) }) (v := undef) rfl (by kernel_rfl) (by kernel_rfl) (by kernel_rfl) (fun _ _ _ h => h) (Or.inr ⟨by rfl, rfl⟩) (by assumption) ?_
  simp only [Act.put, List.setIfInBounds_toArray, List.set_cons_zero, List.set_cons_succ]
  refine wpAnyH_take (i := 15) (oi := { dst := some 51, op := Op.pick (Operand.tmp 45) (Operand.const (Value.bool true)) (Operand.tmp 50), type := 4, pos := _, after := _, guard := some (6, true) }) (v := .bool true) rfl (by kernel_rfl) (by kernel_rfl) (by kernel_rfl) (fun _ _ _ h => h) (Or.inl ⟨by rfl, fun w' _ => ?_⟩) (by assumption) ?_
  · go_simp
  simp only [Act.put, List.setIfInBounds_toArray, List.set_cons_zero, List.set_cons_succ]
  refine wpAnyH_take (i := 16) (oi := { dst := some 52, op := Op.pick (Operand.tmp 42) (Operand.tmp 51) (Operand.const (Value.bool false)), type := 4, pos := _, after := _, guard := none }) (v := .bool true) rfl (by kernel_rfl) (by kernel_rfl) (by kernel_rfl) (fun _ _ _ h => h) (Or.inl ⟨by rfl, fun w' _ => ?_⟩) (by assumption) ?_
  · go_simp
  simp only [Act.put, List.setIfInBounds_toArray, List.set_cons_zero, List.set_cons_succ]
  refine wpAnyH_take (i := 17) (oi := { dst := some 53, op := Op.move (Operand.tmp 52), type := 4, pos := _, after := _, guard := none }) (v := .bool true) rfl (by kernel_rfl) (by kernel_rfl) (by kernel_rfl) (fun _ _ _ h => h) (Or.inl ⟨by rfl, fun w' _ => ?_⟩) (by assumption) ?_
  · go_simp
  simp only [Act.put, List.setIfInBounds_toArray, List.set_cons_zero, List.set_cons_succ]
  refine wpAnyH_take (i := 18) (oi := { dst := some 54, op := Op.move (Operand.tmp 10), type := 9, pos := _, after := _, guard := some (17, true) }) (v := .string t) rfl (by kernel_rfl) (by kernel_rfl) (by kernel_rfl) (fun _ _ _ h => h) (Or.inl ⟨by rfl, fun w' _ => ?_⟩) (by assumption) ?_
  · go_simp
  simp only [Act.put, List.setIfInBounds_toArray, List.set_cons_zero, List.set_cons_succ]
  refine wpAnyH_take (i := 21) (oi := { dst := some 57, op := Op.move (Operand.tmp 10), type := 9, pos := _, after := _, guard := some (17, true) }) (v := .string t) rfl (by kernel_rfl) (by kernel_rfl) (by kernel_rfl) (fun _ _ _ h => h) (Or.inl ⟨by rfl, fun w' _ => ?_⟩) (by assumption) ?_
  · go_simp
  simp only [Act.put, List.setIfInBounds_toArray, List.set_cons_zero, List.set_cons_succ]
  refine wpAnyH_ready (rs := [19]) (by kernel_rfl) (by simp) ?_
  refine AllReadyH.cons (o := { dst := some 55, op := Op.call { callee := Callee.value (Operand.func 21), args := #[Operand.tmp 54], argTypes := #[9] }, type := 23, pos := _, after := _, guard := some (17, true) }) rfl (fun K hK => ?_) AllReadyH.nil
  go_simp
  go_at_call 21
  (with_reducible refine (H4.out _ ?_).mono ?_)
  exact Kept.env (And.right (by assumption))
  rintro x w6 ⟨t6, v6, rfl, hb⟩
  go_wp2_with fail
  refine hK.out _ _ ?_ (fun hHeld19 => ?_)
  · (first | assumption | (exact Kept.drew' (by assumption)) | (exact Kept.next (by assumption) (by assumption)))
  clear hK K
  try simp only [Act.put, List.setIfInBounds_toArray, List.set_cons_zero, List.set_cons_succ]
  refine wpAnyH_take (i := 20) (oi := { dst := some 56, op := Op.binOp BinOp.eql 23 (Operand.tmp 55) (Operand.const Value.nilIface) 23, type := 4, pos := _, after := _, guard := some (17, true) }) (v := .bool false) rfl (by kernel_rfl) (by kernel_rfl) (by kernel_rfl) (fun _ _ _ h => h) (Or.inl ⟨by rfl, fun w' _ => ?_⟩) (by assumption) ?_
  · go_simp
  simp only [Act.put, List.setIfInBounds_toArray, List.set_cons_zero, List.set_cons_succ]
  refine wpAnyH_ready (rs := [22]) (by kernel_rfl) (by simp) ?_
  refine AllReadyH.cons (o := { dst := some 58, op := Op.call { callee := Callee.value (Operand.func 28), args := #[Operand.tmp 57], argTypes := #[9] }, type := 4, pos := _, after := _, guard := some (17, true) }) rfl (fun K hK => ?_) AllReadyH.nil
  go_simp
  go_at_call 28
  (with_reducible refine (H5.out _).mono ?_)
  rintro x w7 ⟨rfl, hb⟩
  go_wp2_with fail
  refine hK.out _ _ ?_ (fun hHeld22 => ?_)
  · (first | assumption | (exact Kept.drew' (by assumption)) | (exact Kept.next (by assumption) (by assumption)))
  clear hK K
  try simp only [Act.put, List.setIfInBounds_toArray, List.set_cons_zero, List.set_cons_succ]
  refine wpAnyH_take (i := 23) (oi := { dst := some 59, op := Op.binOp BinOp.eql 4 (Operand.tmp 56) (Operand.tmp 58) 4, type := 4, pos := _, after := _, guard := some (17, true) }) (v := .bool true) rfl (by kernel_rfl) (by kernel_rfl) (by kernel_rfl) (fun _ _ _ h => h) (Or.inl ⟨by rfl, fun w' _ => ?_⟩) (by assumption) ?_
  · go_simp
  simp only [Act.put, List.setIfInBounds_toArray, List.set_cons_zero, List.set_cons_succ]
  refine wpAnyH_take (i := 24) (oi := { dst := some 60, op := Op.pick (Operand.tmp 53) (Operand.tmp 59) (Operand.const (Value.bool false)), type := 4, pos := _, after := _, guard := none }) (v := .bool true) rfl (by kernel_rfl) (by kernel_rfl) (by kernel_rfl) (fun _ _ _ h => h) (Or.inl ⟨by rfl, fun w' _ => ?_⟩) (by assumption) ?_
  · go_simp
  simp only [Act.put, List.setIfInBounds_toArray, List.set_cons_zero, List.set_cons_succ]
  refine wpAnyH_take (i := 25) (oi := { dst := some 61, op := Op.move (Operand.tmp 60), type := 4, pos := _, after := _, guard := none }) (v := .bool true) rfl (by kernel_rfl) (by kernel_rfl) (by kernel_rfl) (fun _ _ _ h => h) (Or.inl ⟨by rfl, fun w' _ => ?_⟩) (by assumption) ?_
  · go_simp
  simp only [Act.put, List.setIfInBounds_toArray, List.set_cons_zero, List.set_cons_succ]
  refine wpAnyH_ready (rs := [26]) (by kernel_rfl) (by simp) ?_
  refine AllReadyH.cons (o := { dst := some 62, op := Op.call { callee := Callee.value (Operand.func 20), args := #[], argTypes := #[] }, type := 4, pos := _, after := _, guard := some (25, true) }) rfl (fun K hK => ?_) AllReadyH.nil
  go_simp
  go_at_call 20
  (with_reducible refine (HA.out _ ?_).mono ?_)
  exact Kept.env (And.right (by assumption))
  rintro x w8 ⟨rfl, hb⟩
  go_wp2_with fail
  refine hK.out _ _ ?_ (fun hHeld26 => ?_)
  · (first | assumption | (exact Kept.drew' (by assumption)) | (exact Kept.next (by assumption) (by assumption)))
  clear hK K
  try simp only [Act.put, List.setIfInBounds_toArray, List.set_cons_zero, List.set_cons_succ]
  refine wpAnyH_take (i := 27) (oi := { dst := some 63, op := Op.pick (Operand.tmp 61) (Operand.tmp 62) (Operand.const (Value.bool false)), type := 4, pos := _, after := _, guard := none }) (v := .bool true) rfl (by kernel_rfl) (by kernel_rfl) (by kernel_rfl) (fun _ _ _ h => h) (Or.inl ⟨by rfl, fun w' _ => ?_⟩) (by assumption) ?_
  · go_simp
  simp only [Act.put, List.setIfInBounds_toArray, List.set_cons_zero, List.set_cons_succ]
  refine wpAnyH_take (i := 28) (oi := { dst := some 6, op := Op.assign (Operand.tmp 63), type := 4, pos := _, after := _, guard := none }) (v := .bool true) rfl (by kernel_rfl) (by kernel_rfl) (by kernel_rfl) (fun _ _ _ h => h) (Or.inl ⟨by rfl, fun w' _ => ?_⟩) (by assumption) ?_
  · go_simp
  simp only [Act.put, List.setIfInBounds_toArray, List.set_cons_zero, List.set_cons_succ]
  refine wpAnyH_done (by kernel_rfl) ?_ _
  go_wp2
  go_ret
  exact ⟨rfl, Kept.below (And.right (by assumption))⟩

set_option maxRecDepth 100000 in
set_option maxHeartbeats 4000000 in
theorem letters_p_ok (S : Nat → Addr) (n : Int) (c y : Nat) (w : World) (h : Env w S) (hl : letB n = true) (hc : c < 256) (hy : y < 256) (k : Nat) (hk : (c : Int) % (lenOf n.toNat : Int) = (k : Int)) (hk0 : k ≠ 0)
    (hok : isB ⟨((bytesOf n).set k (UInt8.ofNat y)).toArray⟩ = true) :
    Calls Tryd.prog 7 #[.int .i64 n, .int .u8 c, .int .u8 y] w fun x w' => x = .returned (.bool true) ∧ Below w.heap.size w w' := by
  have hsz := size_bytes hl
  have hb := lenOf_bd n.toNat
  have hkl : k < lenOf n.toNat := by
    have := Int.emod_lt_of_pos (c : Int) (show (0 : Int) < (lenOf n.toNat : Int) by omega)
    omega
  have hne := str_full (bytes_ne0 hl)
  have hne2 : ((⟨(bytesOf n).toArray⟩ : ByteArray).toList.isEmpty) = false := by simpa using hne
  have h1 := fun w => rf_bytes n w
  unfold BytesSays at h1
  have h2 := fun w h => ut_letters S ⟨(bytesOf n).toArray⟩ w h (by omega)
  rw [check_bytes hl, (walk_bytes hl).2] at h2
  unfold LetterSays3 at h2
  have h2' : ∀ w, Env w S → Calls Tryd.prog 23 #[.string ⟨(bytesOf n).toArray⟩] w (fun x w' => ∃ e, x = .returned (.tuple #[.int .i64 1, e]) ∧ ErrOf w' S 129 0 0 e ∧ Below w.heap.size w w') := h2
  have hlen := bytesOf_len hl
  have htz : (⟨((bytesOf n).set k (UInt8.ofNat y)).toArray⟩ : ByteArray).size ≤ 4611686018427387903 := by
    show ((bytesOf n).set k (UInt8.ofNat y)).toArray.size ≤ _
    rw [List.size_toArray, List.length_set]; omega
  have hpart := check_part hl (show 0 < k by omega) hkl
  have h3 := fun w h => ut_check S ((⟨(bytesOf n).toArray⟩ : ByteArray).extract 0 k) w h (by rw [ByteArray.size_extract]; omega)
  have h3' : ∀ w, Env w S → Calls Tryd.prog 21 #[.string ((⟨(bytesOf n).toArray⟩ : ByteArray).extract 0 k)] w (fun x w' => ∃ t v, x = .returned (.iface t v) ∧ Below w.heap.size w w') := by
    intro w h
    refine (h3 w h).mono ?_
    rintro x w' ⟨e, rfl, he, hb⟩
    obtain ⟨t, v, rfl⟩ := (he.is (by rw [hpart]; omega)).iface
    exact ⟨t, v, rfl, hb⟩
  have H3 := Lib.hid h3'
  clear h3 h3' hpart
  have h4' : ∀ w, Env w S → Calls Tryd.prog 21 #[.string ⟨((bytesOf n).set k (UInt8.ofNat y)).toArray⟩] w (fun x w' => x = .returned .nilIface ∧ Below w.heap.size w w') := by
    intro w h
    refine (ut_check S _ w h htz).mono ?_
    rintro x w' ⟨e, rfl, he, hb⟩
    have hz : checkOf ⟨((bytesOf n).set k (UInt8.ofNat y)).toArray⟩ = (0, 0) := (check_zero (by simpa [isB] using hok)).2.2
    rw [hz] at he
    obtain rfl : e = .nilIface := he
    exact ⟨rfl, hb⟩
  have h5 := fun w => rf_is ⟨((bytesOf n).set k (UInt8.ofNat y)).toArray⟩ w htz
  rw [hok] at h5
  have h6 := fun l g w hk hc => set_list l k (UInt8.ofNat y) g w hk hc
  have hyv : byteV (UInt8.ofNat y) = .int .u8 (y : Int) := byteV_of hy
  rw [hyv] at h6
  have H1 := Lib.hid h1
  have H2 := Lib.hid h2'
  have H4 := Lib.hid h4'
  have H5 := Lib.hid h5
  have H6 := Lib.hid h6
  have HA := Lib.hid (fun w h => awake03 S w h)
  have h7 := fun w g cap hc => conv_list w ((bytesOf n).set k (UInt8.ofNat y)) g cap (lenOf n.toNat) (by rw [List.length_set]; exact hlen) hc
  have H7 := Lib.hid h7
  have HL := Lib.hid hlen
  have hbd : (⟨(bytesOf n).toArray⟩ : ByteArray).data.toList = bytesOf n := rfl
  have HBD := Lib.hid hbd
  clear h1 h2 h2' h4' h5 h6 h7 hok hyv htz hlen hbd
  rw [← hsz] at hk hb hkl H7 HL
  generalize hbb : (⟨(bytesOf n).toArray⟩ : ByteArray) = b at *
  generalize (⟨((bytesOf n).set k (UInt8.ofNat y)).toArray⟩ : ByteArray) = t at *
  generalize bytesOf n = l at *
  clear hsz hbb
  obtain ⟨hb1, hb4⟩ := hb
  have h0 : (0 : Int) < (b.size : Int) := by omega
  have hkz : ((k : Int) == 0) = false := beq_eq_false_iff_ne.2 (by omega)
  have hki0 : (0 : Int) ≤ (k : Int) := by omega
  have hki1 : (k : Int) ≤ (b.size : Int) := by omega
  have hk' := hk
  clear hk0
  clear hk
  have HK := Lib.hid hk'
  clear hk'
  go_enter Tryd.func7, Tryd.ntmps7
  go_wp2_with fail
  refine (H1.out _).mono ?_
  rintro x w1 ⟨rfl, hb⟩
  have HE1 := Lib.hid (h.later hb)
  have HB1 := Lib.hid hb
  clear hb
  obtain ⟨cap, w2, hrun, hcap, hcell, hfro, hbel⟩ := bytes_made w1 b
  rw [HBD.out] at hcell
  have hck := hcell k (by rw [HL.out]; exact hkl)
  have hfk := hfro k hkl
  have hset := H6.out l w1.heap.size w2 (by rw [HL.out]; exact hkl) hcell
  have hconv := H7.out _ w1.heap.size cap hset
  have hgw : w.heap.size ≤ w1.heap.size := HB1.out.size
  have HB3 := Lib.hid ((HB1.out.trans (hbel.mono HB1.out.size)).setCell (p := ⟨w1.heap.size, k, none⟩) hgw (.int .u8 (y : Int)))
  have HE3 := Lib.hid (HE1.out.later (hbel.setCell (p := ⟨w1.heap.size, k, none⟩) (Nat.le_refl _) (.int .u8 (y : Int))))
  have hmod := HK.out
  clear hset hcell hfro hbel
  go_wp2_with fail
  refine (H2.out _ HE3.out).mono ?_
  rintro x w4 ⟨e4, rfl, he, hb⟩
  obtain rfl : e4 = .nilIface := he
  have HE4 := Lib.hid (HE3.out.later hb)
  have HB4 := Lib.hid (HB3.out.trans (hb.mono HB3.out.size))
  clear hb hconv hck hfk hrun hmod
  go_wp2_with fail
  rw [HK.out]
  have hkept : True ∧ Kept w S w4 := ⟨trivial, HE4.out, HB4.out⟩
  go_region_held3 (fun w' => True ∧ Kept w S w') (first | assumption | (exact Kept.drew' (by assumption)) | (exact Kept.next (by assumption) (by assumption)))
    (first
      | (go_at_call 21; (with_reducible refine (H3.out _ ?_).mono ?_); exact Kept.env (And.right (by assumption)); rintro x w5 ⟨t5, v5, rfl, hb⟩)
      | (go_at_call 21; (with_reducible refine (H4.out _ ?_).mono ?_); exact Kept.env (And.right (by assumption)); rintro x w6 ⟨rfl, hb⟩)
      | (go_at_call 28; (with_reducible refine (H5.out _).mono ?_); rintro x w7 ⟨rfl, hb⟩)
      | (go_at_call 20; (with_reducible refine (HA.out _ ?_).mono ?_); exact Kept.env (And.right (by assumption)); rintro x w8 ⟨rfl, hb⟩))
  go_wp2
  go_ret
  exact ⟨rfl, Kept.below (And.right (by assumption))⟩

set_option maxRecDepth 100000 in
set_option maxHeartbeats 4000000 in
theorem letters_p_bad (S : Nat → Addr) (n : Int) (c y : Nat) (w : World) (h : Env w S) (hl : letB n = true) (hc : c < 256) (hy : y < 256) (k : Nat) (hk : (c : Int) % (lenOf n.toNat : Int) = (k : Int)) (hk0 : k ≠ 0)
    (hok : isB ⟨((bytesOf n).set k (UInt8.ofNat y)).toArray⟩ = false) :
    Calls Tryd.prog 7 #[.int .i64 n, .int .u8 c, .int .u8 y] w fun x w' => x = .returned (.bool true) ∧ Below w.heap.size w w' := by
  have hsz := size_bytes hl
  have hb := lenOf_bd n.toNat
  have hkl : k < lenOf n.toNat := by
    have := Int.emod_lt_of_pos (c : Int) (show (0 : Int) < (lenOf n.toNat : Int) by omega)
    omega
  have hne := str_full (bytes_ne0 hl)
  have hne2 : ((⟨(bytesOf n).toArray⟩ : ByteArray).toList.isEmpty) = false := by simpa using hne
  have h1 := fun w => rf_bytes n w
  unfold BytesSays at h1
  have h2 := fun w h => ut_letters S ⟨(bytesOf n).toArray⟩ w h (by omega)
  rw [check_bytes hl, (walk_bytes hl).2] at h2
  unfold LetterSays3 at h2
  have h2' : ∀ w, Env w S → Calls Tryd.prog 23 #[.string ⟨(bytesOf n).toArray⟩] w (fun x w' => ∃ e, x = .returned (.tuple #[.int .i64 1, e]) ∧ ErrOf w' S 129 0 0 e ∧ Below w.heap.size w w') := h2
  have hlen := bytesOf_len hl
  have htz : (⟨((bytesOf n).set k (UInt8.ofNat y)).toArray⟩ : ByteArray).size ≤ 4611686018427387903 := by
    show ((bytesOf n).set k (UInt8.ofNat y)).toArray.size ≤ _
    rw [List.size_toArray, List.length_set]; omega
  have hpart := check_part hl (show 0 < k by omega) hkl
  have h3 := fun w h => ut_check S ((⟨(bytesOf n).toArray⟩ : ByteArray).extract 0 k) w h (by rw [ByteArray.size_extract]; omega)
  have h3' : ∀ w, Env w S → Calls Tryd.prog 21 #[.string ((⟨(bytesOf n).toArray⟩ : ByteArray).extract 0 k)] w (fun x w' => ∃ t v, x = .returned (.iface t v) ∧ Below w.heap.size w w') := by
    intro w h
    refine (h3 w h).mono ?_
    rintro x w' ⟨e, rfl, he, hb⟩
    obtain ⟨t, v, rfl⟩ := (he.is (by rw [hpart]; omega)).iface
    exact ⟨t, v, rfl, hb⟩
  have H3 := Lib.hid h3'
  clear h3 h3' hpart
  have h4' : ∀ w, Env w S → Calls Tryd.prog 21 #[.string ⟨((bytesOf n).set k (UInt8.ofNat y)).toArray⟩] w (fun x w' => ∃ t v, x = .returned (.iface t v) ∧ Below w.heap.size w w') := by
    intro w h
    refine (ut_check S _ w h htz).mono ?_
    rintro x w' ⟨e, rfl, he, hb⟩
    obtain ⟨t, v, rfl⟩ := (he.is (by simpa [isB] using hok)).iface
    exact ⟨t, v, rfl, hb⟩
  have h5 := fun w => rf_is ⟨((bytesOf n).set k (UInt8.ofNat y)).toArray⟩ w htz
  rw [hok] at h5
  have h6 := fun l g w hk hc => set_list l k (UInt8.ofNat y) g w hk hc
  have hyv : byteV (UInt8.ofNat y) = .int .u8 (y : Int) := byteV_of hy
  rw [hyv] at h6
  have H1 := Lib.hid h1
  have H2 := Lib.hid h2'
  have H4 := Lib.hid h4'
  have H5 := Lib.hid h5
  have H6 := Lib.hid h6
  have HA := Lib.hid (fun w h => awake03 S w h)
  have h7 := fun w g cap hc => conv_list w ((bytesOf n).set k (UInt8.ofNat y)) g cap (lenOf n.toNat) (by rw [List.length_set]; exact hlen) hc
  have H7 := Lib.hid h7
  have HL := Lib.hid hlen
  have hbd : (⟨(bytesOf n).toArray⟩ : ByteArray).data.toList = bytesOf n := rfl
  have HBD := Lib.hid hbd
  clear h1 h2 h2' h4' h5 h6 h7 hok hyv htz hlen hbd
  rw [← hsz] at hk hb hkl H7 HL
  generalize hbb : (⟨(bytesOf n).toArray⟩ : ByteArray) = b at *
  generalize (⟨((bytesOf n).set k (UInt8.ofNat y)).toArray⟩ : ByteArray) = t at *
  generalize bytesOf n = l at *
  clear hsz hbb
  obtain ⟨hb1, hb4⟩ := hb
  have h0 : (0 : Int) < (b.size : Int) := by omega
  have hkz : ((k : Int) == 0) = false := beq_eq_false_iff_ne.2 (by omega)
  have hki0 : (0 : Int) ≤ (k : Int) := by omega
  have hki1 : (k : Int) ≤ (b.size : Int) := by omega
  have hk' := hk
  clear hk0
  clear hk
  have HK := Lib.hid hk'
  clear hk'
  go_enter Tryd.func7, Tryd.ntmps7
  go_wp2_with fail
  refine (H1.out _).mono ?_
  rintro x w1 ⟨rfl, hb⟩
  have HE1 := Lib.hid (h.later hb)
  have HB1 := Lib.hid hb
  clear hb
  obtain ⟨cap, w2, hrun, hcap, hcell, hfro, hbel⟩ := bytes_made w1 b
  rw [HBD.out] at hcell
  have hck := hcell k (by rw [HL.out]; exact hkl)
  have hfk := hfro k hkl
  have hset := H6.out l w1.heap.size w2 (by rw [HL.out]; exact hkl) hcell
  have hconv := H7.out _ w1.heap.size cap hset
  have hgw : w.heap.size ≤ w1.heap.size := HB1.out.size
  have HB3 := Lib.hid ((HB1.out.trans (hbel.mono HB1.out.size)).setCell (p := ⟨w1.heap.size, k, none⟩) hgw (.int .u8 (y : Int)))
  have HE3 := Lib.hid (HE1.out.later (hbel.setCell (p := ⟨w1.heap.size, k, none⟩) (Nat.le_refl _) (.int .u8 (y : Int))))
  have hmod := HK.out
  clear hset hcell hfro hbel
  go_wp2_with fail
  refine (H2.out _ HE3.out).mono ?_
  rintro x w4 ⟨e4, rfl, he, hb⟩
  obtain rfl : e4 = .nilIface := he
  have HE4 := Lib.hid (HE3.out.later hb)
  have HB4 := Lib.hid (HB3.out.trans (hb.mono HB3.out.size))
  clear hb hconv hck hfk hrun hmod
  go_wp2_with fail
  rw [HK.out]
  have hkept : True ∧ Kept w S w4 := ⟨trivial, HE4.out, HB4.out⟩
  go_region_held3 (fun w' => True ∧ Kept w S w') (first | assumption | (exact Kept.drew' (by assumption)) | (exact Kept.next (by assumption) (by assumption)))
    (first
      | (go_at_call 21; (with_reducible refine (H3.out _ ?_).mono ?_); exact Kept.env (And.right (by assumption)); rintro x w5 ⟨t5, v5, rfl, hb⟩)
      | (go_at_call 21; (with_reducible refine (H4.out _ ?_).mono ?_); exact Kept.env (And.right (by assumption)); rintro x w6 ⟨t6, v6, rfl, hb⟩)
      | (go_at_call 28; (with_reducible refine (H5.out _).mono ?_); rintro x w7 ⟨rfl, hb⟩)
      | (go_at_call 20; (with_reducible refine (HA.out _ ?_).mono ?_); exact Kept.env (And.right (by assumption)); rintro x w8 ⟨rfl, hb⟩))
  go_wp2
  go_ret
  exact ⟨rfl, Kept.below (And.right (by assumption))⟩

theorem utfLetters_walk (S : Nat → Addr) (n c y : Int) (w : World) (h : Env w S) (_hn : (Lit.int .i64 n).wf = true) (hc : (Lit.int .u8 c).wf = true) (hy : (Lit.int .u8 y).wf = true) :
    Calls Tryd.prog 7 #[.int .i64 n, .int .u8 c, .int .u8 y] w fun x w' => x = .returned (.bool true) ∧ Below w.heap.size w w' := by
  have hc' : 0 ≤ c ∧ c ≤ 255 := by simpa [Lit.wf, IntKind.min, IntKind.max, IntKind.signed, IntKind.bits] using hc
  have hy' : 0 ≤ y ∧ y ≤ 255 := by simpa [Lit.wf, IntKind.min, IntKind.max, IntKind.signed, IntKind.bits] using hy
  obtain ⟨u, rfl⟩ : ∃ u : Nat, c = (u : Int) := ⟨c.toNat, by omega⟩
  obtain ⟨v, rfl⟩ : ∃ v : Nat, y = (v : Int) := ⟨y.toNat, by omega⟩
  cases hl : letB n with
  | false => exact letters_none S n u v w h hl
  | true =>
    have hk : (u : Int) % (lenOf n.toNat : Int) = ((u % lenOf n.toNat : Nat) : Int) := by omega
    cases hok : isB ⟨((bytesOf n).set (u % lenOf n.toNat) (UInt8.ofNat v)).toArray⟩ with
    | true =>
      by_cases h0 : u % lenOf n.toNat = 0
      · exact letters_z_ok S n u v w h hl (by omega) (by omega) _ hk h0 hok
      · exact letters_p_ok S n u v w h hl (by omega) (by omega) _ hk h0 hok
    | false =>
      by_cases h0 : u % lenOf n.toNat = 0
      · exact letters_z_bad S n u v w h hl (by omega) (by omega) _ hk h0 hok
      · exact letters_p_bad S n u v w h hl (by omega) (by omega) _ hk h0 hok
end Go.Proofs.YtfaldlamjbiciaaDoor
