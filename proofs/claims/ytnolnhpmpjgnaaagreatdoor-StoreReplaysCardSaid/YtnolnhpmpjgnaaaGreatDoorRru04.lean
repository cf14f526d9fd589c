/- What is proved here: the document's own reader of fields: where it is, so many bytes, numbers, bytes. Conditions: the reader is there, with few bytes. What is proved here: the document's own reader of fields: variable byte integers, bytes and texts, any field; what it ends with. Conditions: the reader is there, with few bytes. What is proved here: the document's own reader of fields: texts, any field, what it ends with. Conditions: the reader is there, with few bytes. -/
import Derived.Test.YtnolnhpmpjgnaaaGreatDoorAwk04
namespace Go.Proofs.YtnolnhpmpjgnaaaGreatDoor
set_option maxRecDepth 100000
open Go.RowKit Go.Extern.Stop Go.Stop Go.Extern
structure RRObj (w : World) (g : Nat) (s : ByteArray) (R : RV) : Prop where
  blk : Blk w g 66 #[.string s, .int .i64 R.p, .int .i64 R.no, .int .i64 R.ea]
  le : R.p ≤ s.size
structure RRNext (w w' : World) (g : Nat) (s : ByteArray) (R' : RV) : Prop where
  obj : RRObj w' g s R'
  fr : Fr [g] w w'
section
variable {w w' w2 : World} {B g : Nat} {s : ByteArray} {R R' R2 : RV} {X : List Nat}
theorem RRObj.lt (h : RRObj w g s R) : g < w.heap.size := h.blk.lt
theorem RRObj.fr (h : RRObj w g s R) (hf : Fr X w w') (hg : g ∉ X) : RRObj w' g s R := ⟨h.blk.fr hf hg, h.le⟩
theorem RRObj.below (h : RRObj w g s R) (hb : Below w.heap.size w w') : RRObj w' g s R := h.fr (X := []) (Fr.of_below hb) (by simp)
theorem RRObj.step (h : RRObj w g s R) (hb : Below w.heap.size w w') : RRNext w w' g s R := ⟨h.below hb, Fr.of_below hb⟩
theorem RRNext.trans (h : RRNext w w' g s R') (h2 : RRNext w' w2 g s R2) : RRNext w w2 g s R2 := ⟨h2.obj, h.fr.trans h2.fr fun _ hk _ => hk⟩
theorem RRNext.below (h : RRNext w w' g s R') (hb : Below w'.heap.size w' w2) : RRNext w w2 g s R' := h.trans (h.obj.step hb)
theorem RRNext.pre (h : RRNext w' w2 g s R') (hb : Below w.heap.size w w') : RRNext w w2 g s R' := ⟨h.obj, (Fr.of_below (X := [g]) hb).trans h.fr fun _ hk _ => hk⟩
theorem RRNext.later (h : RRNext w' w2 g s R') (hg : B ≤ g) (hB : B ≤ w'.heap.size) (hb : Below B w w') : Below B w w2 := h.fr.later hb (fun b hx => by rw [List.mem_singleton] at hx; omega) hB
theorem RRObj.made (w : World) (s : ByteArray) : RRObj (w.alloc (.cells #[.string s, .int .i64 0, .int .i64 0, .int .i64 0] 66)) w.heap.size s ⟨0, 0, 0⟩ := ⟨Blk.made w _ _, Nat.zero_le _⟩
/-- Its place is another. -/
theorem RRObj.moved (h : RRObj w g s R) {p : Nat} (hp : p ≤ s.size) : RRNext w (w.setCell ⟨g, 1, none⟩ (.int .i64 p)) g s ⟨p, R.no, R.ea⟩ :=
  ⟨⟨h.blk.store 1 _, hp⟩, (Fr.refl [g] w).setCell (p := ⟨g, 1, none⟩) (.inl (List.mem_singleton_self g)) _⟩
theorem rrfail_any (h : RRObj w g s R) (no a : Nat) :
    Calls Tryz.prog 77 #[.pointer (some ⟨g, 0, none⟩), .int .i64 no, .int .i64 a] w fun x w' => x = .returned (.tuple #[]) ∧ RRNext w w' g s ⟨R.p, no, a⟩ := by
  obtain ⟨hb, hle⟩ := h
  have c1 : w.cell? ⟨g, 2, none⟩ = some (.int .i64 R.no) := hb.cell 2
  have d1 : w.frozen? ⟨g, 2, none⟩ = false := hb.frozen 2
  have hb2 := hb.store 2 (.int .i64 no)
  have c2 : (w.setCell ⟨g, 2, none⟩ (.int .i64 no)).cell? ⟨g, 3, none⟩ = some (.int .i64 R.ea) := hb2.cell 3
  have d2 : (w.setCell ⟨g, 2, none⟩ (.int .i64 no)).frozen? ⟨g, 3, none⟩ = false := hb2.frozen 3
  have hb3 := hb2.store 3 (.int .i64 a)
  have hf : Fr [g] w ((w.setCell ⟨g, 2, none⟩ (.int .i64 no)).setCell ⟨g, 3, none⟩ (.int .i64 a)) := ((Fr.refl [g] w).setCell (p := ⟨g, 2, none⟩) (.inl (List.mem_singleton_self g)) _).setCell (p := ⟨g, 3, none⟩) (.inl (List.mem_singleton_self g)) _
  have HF := Lib.hid (show RRNext w _ g s ⟨R.p, no, a⟩ from ⟨⟨hb3, hle⟩, hf⟩)
  clear hb hb2 hb3 hf
  go_enter Tryz.func77, Tryz.ntmps77
  go_wp2
  exact bodyPost_end (v := .tuple #[]) (by simp [results, Tryz.results77, go_sem]) rfl ⟨rfl, HF.out⟩
/-- What a method of a reader says. -/
def RRSays (w : World) (g : Nat) (s : ByteArray) (r : Value) (R' : RV) (x : Ending) (w' : World) : Prop := x = .returned r ∧ RRNext w w' g s R'
theorem rrtake_stuck (h : RRObj w g s R) (h0 : R.no ≠ 0) (n : Nat) :
    Calls Tryz.prog 75 #[.pointer (some ⟨g, 0, none⟩), .int .i64 n] w (RRSays w g s (.tuple #[.string ⟨#[]⟩, .bool false]) R) := by
  have c2 : w.cell? ⟨g, 2, none⟩ = some (.int .i64 R.no) := h.blk.cell 2
  have HS := Lib.hid (h.step (Below.refl _ _))
  have h1 : ¬ (R.no : Int) = 0 := by omega
  clear h h0
  go_enter Tryz.func75, Tryz.ntmps75
  go_wp2
  go_ret2
  exact ⟨rfl, HS.out⟩
theorem rrtake_short (h : RRObj w g s R) (h0 : R.no = 0) (hs : s.size ≤ 1000000) (n : Nat) (hn : s.size < R.p + n) :
    Calls Tryz.prog 75 #[.pointer (some ⟨g, 0, none⟩), .int .i64 n] w (RRSays w g s (.tuple #[.string ⟨#[]⟩, .bool false]) ⟨R.p, 1, s.size⟩) := by
  obtain ⟨p, no, ea⟩ := R
  simp only at *
  subst h0
  have hp := h.le
  simp only at hp
  have c0 : w.cell? ⟨g, 0, none⟩ = some (.string s) := h.blk.cell 0
  have c1 : w.cell? ⟨g, 1, none⟩ = some (.int .i64 p) := h.blk.cell 1
  have c2 : w.cell? ⟨g, 2, none⟩ = some (.int .i64 0) := h.blk.cell 2
  have HF := Lib.hid (fun d => rrfail_any (h.below (below_drewN (Below.refl _ _) d)) 1 s.size)
  have KC := Lib.hid (fun d => show (w.drewN d).cell? ⟨g, 0, none⟩ = some (.string s) from (h.below (below_drewN (Below.refl _ _) d)).blk.cell 0)
  have hge : (s.size : Int) - (p : Int) < (n : Int) := by omega
  clear h
  go_enter Tryz.func75, Tryz.ntmps75
  go_wp2_with fail
  go_quiet (fail)
  have t0 := KC.out
  go_wp2_with fail
  refine (HF.out _).mono ?_
  rintro x w1 ⟨rfl, hN⟩
  have HN := Lib.hid (hN.pre (below_drewN (Below.refl _ _) _))
  clear hN
  go_wp2_with fail
  go_ret2
  exact ⟨rfl, HN.out⟩
theorem rrtake_ok (h : RRObj w g s R) (h0 : R.no = 0) (hs : s.size ≤ 1000000) (n : Nat) (hn : R.p + n ≤ s.size) :
    Calls Tryz.prog 75 #[.pointer (some ⟨g, 0, none⟩), .int .i64 n] w (RRSays w g s (.tuple #[.string (s.extract R.p (R.p + n)), .bool true]) ⟨R.p + n, 0, R.ea⟩) := by
  obtain ⟨p, no, ea⟩ := R
  simp only at *
  subst h0
  have c0 : w.cell? ⟨g, 0, none⟩ = some (.string s) := h.blk.cell 0
  have c1 : w.cell? ⟨g, 1, none⟩ = some (.int .i64 p) := h.blk.cell 1
  have c2 : w.cell? ⟨g, 2, none⟩ = some (.int .i64 0) := h.blk.cell 2
  have HF := Lib.hid (fun d => ((h.below (below_drewN (Below.refl _ _) d)).moved (p := p + n) hn).pre (below_drewN (Below.refl w.heap.size w) d))
  have c3 : w.frozen? ⟨g, 1, none⟩ = false := h.blk.frozen 1
  have hge : ¬ (s.size : Int) - (p : Int) < (n : Int) := by omega
  have q1 : IntKind.i64.wrap ((p : Int) + (n : Int)) = (p : Int) + (n : Int) := IntWalk.i64_in _ (by omega)
  clear h
  go_enter Tryz.func75, Tryz.ntmps75
  go_wp2_with fail
  go_quiet (fail)
  go_wp2_with fail
  go_quiet (fail)
  go_wp2
  go_ret2
  exact ⟨rfl, HF.out _⟩
theorem rrtake_any (h : RRObj w g s R) (hs : s.size ≤ 1000000) (n : Nat) : ∃ b : Bool, (b = true ∨ (rTake s n R).1.size = 0) ∧
    Calls Tryz.prog 75 #[.pointer (some ⟨g, 0, none⟩), .int .i64 n] w (RRSays w g s (.tuple #[.string (rTake s n R).1, .bool b]) (rTake s n R).2) := by
  unfold rTake
  by_cases h0 : R.no = 0
  · rw [if_pos h0]
    by_cases h1 : s.size < R.p + n
    · rw [if_pos h1]
      exact ⟨false, .inr rfl, rrtake_short h h0 hs n h1⟩
    · rw [if_neg h1]
      exact ⟨true, .inl rfl, rrtake_ok h h0 hs n (by omega)⟩
  · rw [if_neg h0]
    exact ⟨false, .inr rfl, rrtake_stuck h h0 n⟩
set_option maxHeartbeats 1000000 in
theorem rrnumber_any (h : RRObj w g s R) (hs : s.size ≤ 1000000) (k : Nat) (hk : k ≤ 4) :
    Calls Tryz.prog 53 #[.pointer (some ⟨g, 0, none⟩), .int .i64 k] w (RRSays w g s (.int .i64 (rNum s k R).1) (rNum s k R).2) := by
  obtain ⟨b, hb, ht⟩ := rrtake_any h hs k
  have HT := Lib.hid ht
  have hz := take_size s k R
  have e1 : (rNum s k R).1 = bv (rTake s k R).1.data.toList := rfl
  have e2 : (rNum s k R).2 = (rTake s k R).2 := rfl
  rw [e1, e2]
  generalize (rTake s k R).2 = R' at *
  generalize (rTake s k R).1 = t at *
  have hb4 : t.size ≤ 4 := by omega
  clear e1 e2 hz h hs ht
  go_enter Tryz.func53, Tryz.ntmps53
  go_wp2_with fail
  refine HT.out.mono ?_
  rintro x w1 ⟨rfl, hN⟩
  have HN := Lib.hid hN
  clear hN HT
  go_wp2_with fail
  have HA := Lib.hid (preB_all t)
  go_loopg [7, 8] t.size (fun f x y wr => w1 = wr ∧ ∃ i : Nat, f = t.size - i ∧ i ≤ t.size ∧ x = .int .i64 (preB t i : Nat) ∧ y = .int .i64 i)
  case atStart => exact ⟨rfl, 0, rfl, Nat.zero_le _, rfl, rfl⟩
  case round =>
    obtain ⟨rfl, i, rfl, hi, rfl, rfl⟩ := hrel
    by_cases hlt : i < t.size
    · obtain rfl : b = true := hb.elim id fun h => by omega
      have hp := preB_succ hlt
      have hq := preB_lt t i (by omega)
      have hv := t[i].toNat_lt
      have HP := Lib.hid hp
      clear hp
      obtain ⟨r, hrr⟩ : ∃ r, preB t i * 256 + t[i].toNat = r := ⟨_, rfl⟩
      have HR := Lib.hid hrr
      have hr : ((preB t i : Nat) : Int) * 256 + ((t[i].toNat : Nat) : Int) = (r : Int) := by omega
      clear hrr
      generalize hqq : preB t i = q at *
      have hq' : (q : Int) < 4294967296 := by omega
      clear hqq
      go_wp2
      go_roundg (t.size - (i + 1))
      case rel => exact ⟨rfl, i + 1, rfl, hlt, by rw [HP.out, HR.out], by go_num⟩
      case measure => omega
    · obtain rfl : i = t.size := by omega
      have hA := HA.out
      rw [hA]
      go_wp2
      go_ret
      exact ⟨rfl, HN.out⟩
theorem rru8_any (h : RRObj w g s R) (hs : s.size ≤ 1000000) :
    Calls Tryz.prog 30 #[.pointer (some ⟨g, 0, none⟩)] w (RRSays w g s (.int .i64 (rNum s 1 R).1) (rNum s 1 R).2) := by
  have HN := Lib.hid (rrnumber_any h hs 1 (by omega))
  clear h hs
  generalize rNum s 1 R = q at *
  go_enter Tryz.func30, Tryz.ntmps30
  go_wp2_with fail
  refine HN.out.mono ?_
  rintro x w1 ⟨rfl, hN⟩
  have HF := Lib.hid hN
  clear hN
  go_wp2
  go_ret
  exact ⟨rfl, HF.out⟩
theorem rru16_any (h : RRObj w g s R) (hs : s.size ≤ 1000000) :
    Calls Tryz.prog 55 #[.pointer (some ⟨g, 0, none⟩)] w (RRSays w g s (.int .i64 (rNum s 2 R).1) (rNum s 2 R).2) := by
  have HN := Lib.hid (rrnumber_any h hs 2 (by omega))
  clear h hs
  generalize rNum s 2 R = q at *
  go_enter Tryz.func55, Tryz.ntmps55
  go_wp2_with fail
  refine HN.out.mono ?_
  rintro x w1 ⟨rfl, hN⟩
  have HF := Lib.hid hN
  clear hN
  go_wp2
  go_ret
  exact ⟨rfl, HF.out⟩
theorem rru32_any (h : RRObj w g s R) (hs : s.size ≤ 1000000) :
    Calls Tryz.prog 32 #[.pointer (some ⟨g, 0, none⟩)] w (RRSays w g s (.int .i64 (rNum s 4 R).1) (rNum s 4 R).2) := by
  have HN := Lib.hid (rrnumber_any h hs 4 (by omega))
  clear h hs
  generalize rNum s 4 R = q at *
  go_enter Tryz.func32, Tryz.ntmps32
  go_wp2_with fail
  refine HN.out.mono ?_
  rintro x w1 ⟨rfl, hN⟩
  have HF := Lib.hid hN
  clear hN
  go_wp2
  go_ret
  exact ⟨rfl, HF.out⟩
theorem rrraw_any (h : RRObj w g s R) (hs : s.size ≤ 1000000) (n : Nat) :
    Calls Tryz.prog 54 #[.pointer (some ⟨g, 0, none⟩), .int .i64 n] w (RRSays w g s (.string (rTake s n R).1) (rTake s n R).2) := by
  obtain ⟨b, hb, ht⟩ := rrtake_any h hs n
  have HT := Lib.hid ht
  clear h hs hb ht
  generalize rTake s n R = q at *
  go_enter Tryz.func54, Tryz.ntmps54
  go_wp2_with fail
  refine HT.out.mono ?_
  rintro x w1 ⟨rfl, hN⟩
  have HF := Lib.hid hN
  clear hN
  go_wp2
  go_ret
  exact ⟨rfl, HF.out⟩
end
end Go.Proofs.YtnolnhpmpjgnaaaGreatDoor
namespace Go.Proofs.YtnolnhpmpjgnaaaGreatDoor
set_option maxRecDepth 100000
open Go.RowKit Go.Extern.Stop Go.Stop Go.Extern
structure RRIn (w W : World) (g : Nat) (s : ByteArray) (R : RV) : Prop where
  obj : RRObj W g s R
  bel : Below w.heap.size w W
section
variable {w w' w2 : World} {B g : Nat} {s : ByteArray} {R R' R2 : RV} {X : List Nat}
theorem RRIn.below {W W' : World} (h : RRIn w W g s R) (hb : Below W.heap.size W W') : RRIn w W' g s R := ⟨h.obj.below hb, h.bel.trans (hb.mono h.bel.size)⟩
theorem RRIn.drewN {W : World} (h : RRIn w W g s R) (d : Nat) : RRIn w (W.drewN d) g s R := h.below (below_drewN (Below.refl _ _) d)
theorem rrvar_stuck (h : RRObj w g s R) (h0 : R.no ≠ 0) :
    Calls Tryz.prog 56 #[.pointer (some ⟨g, 0, none⟩)] w (RRSays w g s (.int .i64 0) R) := by
  have c2 : w.cell? ⟨g, 2, none⟩ = some (.int .i64 R.no) := h.blk.cell 2
  have HS := Lib.hid (h.step (Below.refl _ _))
  have h1 : ¬ (R.no : Int) = 0 := by omega
  clear h h0
  go_enter Tryz.func56, Tryz.ntmps56
  go_wp2
  go_ret
  exact ⟨rfl, HS.out⟩
theorem rrvar_ok (h : RRObj w g s R) (h0 : R.no = 0) (hs : s.size ≤ 1000000) (n k a : Nat) (hv : vt (s.extract R.p s.size) 4 0 0 1 = (n, k, 0, a)) (hk : R.p + k ≤ s.size) :
    Calls Tryz.prog 56 #[.pointer (some ⟨g, 0, none⟩)] w (RRSays w g s (.int .i64 n) ⟨R.p + k, 0, R.ea⟩) := by
  have hle := h.le
  have hi0 : RRIn w w g s R := ⟨h, Below.refl _ _⟩
  have HT := Lib.hid (fun (W1 : World) (h : RRIn w W1 g s R) => (ref_take (s.extract R.p s.size) (by simp; omega) W1).mono fun x w' hx => show x = Ending.returned (.tuple #[.int .i64 n, .int .i64 k, .int .i64 (0 : Nat), .int .i64 a]) ∧ RRIn w w' g s R from by
    obtain ⟨rfl, rfl⟩ := hx
    rw [hv]
    exact ⟨rfl, h⟩)
  have c2 : w.cell? ⟨g, 2, none⟩ = some (.int .i64 R.no) := h.blk.cell 2
  have KT := Lib.hid (fun (W1 : World) (h : RRIn w W1 g s R) => show W1.cell? ⟨g, 0, none⟩ = some (.string s) ∧ W1.cell? ⟨g, 1, none⟩ = some (.int .i64 R.p) ∧ W1.frozen? ⟨g, 1, none⟩ = false from ⟨h.obj.blk.cell 0, h.obj.blk.cell 1, h.obj.blk.frozen 1⟩)
  have KS := Lib.hid (fun (W1 : World) (h : RRIn w W1 g s R) => show W1.cell? ⟨g, 0, none⟩ = some (.string s) ∧ W1.cell? ⟨g, 1, none⟩ = some (.int .i64 R.p) from ⟨h.obj.blk.cell 0, h.obj.blk.cell 1⟩)
  obtain ⟨p, no, ea⟩ := R
  simp only at *
  subst h0
  clear h hv
  obtain ⟨t0, t1, t2⟩ := KT.out _ hi0
  go_enter Tryz.func56, Tryz.ntmps56
  go_wp2_with fail
  go_region_held3 (fun W => W.cell? ⟨g, 0, none⟩ = some (.string s) ∧ W.cell? ⟨g, 1, none⟩ = some (.int .i64 p))
    (first | assumption | (exact KS.out _ (by assumption)) | (exact KS.out _ (RRIn.drewN (by assumption) 1)))
    ((go_at_call 76; (with_reducible refine (HT.out _ ?_).mono ?_); (first | assumption | exact RRIn.drewN (by assumption) 1); rintro x w6 ⟨rfl, hi6⟩))
  obtain ⟨y0, y1, y2⟩ := KT.out _ hi6
  have hpn := hk
  have q1 : IntKind.i64.wrap ((p : Int) + (k : Int)) = (p : Int) + (k : Int) := IntWalk.i64_in _ (by omega)
  have HN := Lib.hid ((hi6.obj.moved (p := p + k) hk).pre hi6.bel)
  clear t0 t1 t2 hi6
  go_wp2_with fail
  go_ret
  exact ⟨rfl, HN.out⟩
theorem rrvar_bad (h : RRObj w g s R) (h0 : R.no = 0) (hs : s.size ≤ 1000000) (n k no a : Nat) (hv : vt (s.extract R.p s.size) 4 0 0 1 = (n, k, no, a)) (hno : no ≠ 0) (ha : a ≤ 1000000) :
    Calls Tryz.prog 56 #[.pointer (some ⟨g, 0, none⟩)] w (RRSays w g s (.int .i64 0) ⟨R.p, no, R.p + a⟩) := by
  have hle := h.le
  have hi0 : RRIn w w g s R := ⟨h, Below.refl _ _⟩
  have HT := Lib.hid (fun (W1 : World) (h : RRIn w W1 g s R) => (ref_take (s.extract R.p s.size) (by simp; omega) W1).mono fun x w' hx => show x = Ending.returned (.tuple #[.int .i64 n, .int .i64 k, .int .i64 no, .int .i64 a]) ∧ RRIn w w' g s R from by
    obtain ⟨rfl, rfl⟩ := hx
    rw [hv]
    exact ⟨rfl, h⟩)
  have c2 : w.cell? ⟨g, 2, none⟩ = some (.int .i64 R.no) := h.blk.cell 2
  have KS := Lib.hid (fun (W1 : World) (h : RRIn w W1 g s R) => show W1.cell? ⟨g, 0, none⟩ = some (.string s) ∧ W1.cell? ⟨g, 1, none⟩ = some (.int .i64 R.p) from ⟨h.obj.blk.cell 0, h.obj.blk.cell 1⟩)
  have HF := Lib.hid (fun (W1 : World) (h : RRIn w W1 g s R) => rrfail_any h.obj no (R.p + a))
  have hn1 : ¬ (no : Int) = 0 := by omega
  obtain ⟨p, no0, ea⟩ := R
  simp only at *
  subst h0
  have ep : ((p + a : Nat) : Int) = (p : Int) + (a : Int) := by omega
  rw [ep] at HF
  clear h hv
  obtain ⟨t0, t1⟩ := KS.out _ hi0
  go_enter Tryz.func56, Tryz.ntmps56
  go_wp2_with fail
  go_region_held3 (fun W => W.cell? ⟨g, 0, none⟩ = some (.string s) ∧ W.cell? ⟨g, 1, none⟩ = some (.int .i64 p))
    (first | assumption | (exact KS.out _ (by assumption)) | (exact KS.out _ (RRIn.drewN (by assumption) 1)))
    ((go_at_call 76; (with_reducible refine (HT.out _ ?_).mono ?_); (first | assumption | exact RRIn.drewN (by assumption) 1); rintro x w6 ⟨rfl, hi6⟩))
  have HI := Lib.hid hi6
  clear t0 t1
  obtain ⟨t0, t1⟩ := KS.out _ hi6
  clear hi6
  have q1 : IntKind.i64.wrap ((p : Int) + (a : Int)) = (p : Int) + (a : Int) := IntWalk.i64_in _ (by omega)
  go_wp2_with fail
  refine (HF.out _ HI.out).mono ?_
  rintro x w7 ⟨rfl, hN⟩
  have HN := Lib.hid (hN.pre HI.out.bel)
  clear hN t0 t1
  go_wp2_with fail
  go_ret
  exact ⟨rfl, HN.out⟩
theorem rrvar_any (h : RRObj w g s R) (hs : s.size ≤ 900000) :
    Calls Tryz.prog 56 #[.pointer (some ⟨g, 0, none⟩)] w (RRSays w g s (.int .i64 (rVar s R).1) (rVar s R).2) := by
  by_cases h0 : R.no = 0
  · obtain ⟨f, hf⟩ : ∃ f, vt (s.extract R.p s.size) 4 0 0 1 = f := ⟨_, rfl⟩
    have hb := vt_bd (s.extract R.p s.size) 4 0 0 1 (Nat.zero_le _)
    have hle := h.le
    have hz : (s.extract R.p s.size).size = s.size - R.p := by simp
    rw [hf, hz] at hb
    obtain ⟨n, k, no, a⟩ := f
    simp only at hb
    unfold rVar
    rw [if_pos h0, hf]
    unfold rVarOf
    simp only
    by_cases hno : no = 0
    · subst hno
      rw [if_pos rfl]
      exact rrvar_ok h h0 (by omega) n k a hf (by omega)
    · rw [if_neg hno]
      exact rrvar_bad h h0 (by omega) n k no a hf hno (by omega)
  · unfold rVar
    rw [if_neg h0]
    exact rrvar_stuck h h0
theorem rrbin_any (h : RRObj w g s R) (hs : s.size ≤ 900000) :
    Calls Tryz.prog 31 #[.pointer (some ⟨g, 0, none⟩)] w (RRSays w g s (.string (rBin s R).1) (rBin s R).2) := by
  have c1 : w.cell? ⟨g, 1, none⟩ = some (.int .i64 R.p) := h.blk.cell 1
  have HU := Lib.hid (rru16_any h (by omega))
  have HTK := Lib.hid (fun (W1 : World) (R1 : RV) (n : Nat) (h : RRObj W1 g s R1) => rrraw_any h (by omega) n)
  have hle := h.le
  have HLE := Lib.hid hle
  clear h hle
  unfold rBin
  generalize rNum s 2 R = q at *
  obtain ⟨n, R1⟩ := q
  simp only at *
  generalize hq2 : rTake s n R1 = q2
  obtain ⟨t, R2⟩ := q2
  have HQ := Lib.hid hq2
  clear hq2
  simp only at *
  obtain ⟨R3, hR3⟩ : ∃ R3, (if R2.no = 0 then R2 else ⟨R.p, R2.no, R2.ea⟩) = R3 := ⟨_, rfl⟩
  rw [hR3]
  have HR3 := Lib.hid hR3
  clear hR3
  go_enter Tryz.func31, Tryz.ntmps31
  go_wp2_with fail
  refine HU.out.mono ?_
  rintro x w2 ⟨rfl, hN2⟩
  have HN2 := Lib.hid hN2
  clear hN2
  go_wp2_with fail
  refine (HTK.out _ _ n HN2.out.obj).mono ?_
  rintro x w3 ⟨rfl, hN3⟩
  have HN3 := Lib.hid (HN2.out.trans hN3)
  clear hN3
  rw [HQ.out] at HN3 ⊢
  simp only at HN3 ⊢
  have c2 : w3.cell? ⟨g, 2, none⟩ = some (.int .i64 R2.no) := HN3.out.obj.blk.cell 2
  by_cases h0 : R2.no = 0
  · have e3 : R2 = R3 := (if_pos h0).symm.trans HR3.out
    rw [h0] at c2
    rw [e3] at HN3
    clear e3 c1
    go_wp2
    go_ret
    exact ⟨rfl, HN3.out⟩
  · have e3 : (⟨R.p, R2.no, R2.ea⟩ : RV) = R3 := (if_neg h0).symm.trans HR3.out
    have hM := HN3.out.trans (HN3.out.obj.moved HLE.out)
    rw [e3] at hM
    have HM := Lib.hid hM
    have h1 : ¬ (R2.no : Int) = 0 := by omega
    have y0 : w3.cell? ⟨g, 1, none⟩ = some (.int .i64 R2.p) := HN3.out.obj.blk.cell 1
    have y1 : w3.frozen? ⟨g, 1, none⟩ = false := HN3.out.obj.blk.frozen 1
    clear e3 hM h0 c1
    go_wp2
    go_ret
    exact ⟨rfl, HM.out⟩
end
end Go.Proofs.YtnolnhpmpjgnaaaGreatDoor
namespace Go.Proofs.YtnolnhpmpjgnaaaGreatDoor
set_option maxRecDepth 100000
open Go.RowKit Go.Extern.Stop Go.Stop Go.Extern
theorem take_none {s : ByteArray} {n : Nat} {R : RV} (h : (rTake s n R).2.no ≠ 0) : (rTake s n R).1 = ⟨#[]⟩ := by
  unfold rTake at h ⊢
  by_cases h0 : R.no = 0
  · rw [if_pos h0] at h ⊢
    by_cases h1 : s.size < R.p + n
    · rw [if_pos h1]
    · rw [if_neg h1] at h
      exact absurd rfl h
  · rw [if_neg h0]
theorem bin_none {s : ByteArray} {R : RV} (h : (rBin s R).2.no ≠ 0) : (rBin s R).1 = ⟨#[]⟩ := by
  unfold rBin at h ⊢
  simp only at h ⊢
  apply take_none
  intro h0
  rw [if_pos h0] at h
  exact h h0
section
variable {w w' : World} {g : Nat} {s : ByteArray} {R : RV}
theorem rrtext_any (h : RRObj w g s R) (hs : s.size ≤ 900000) :
    Calls Tryz.prog 80 #[.pointer (some ⟨g, 0, none⟩)] w (RRSays w g s (.string (rText s R).1) (rText s R).2) := by
  have c1 : w.cell? ⟨g, 1, none⟩ = some (.int .i64 R.p) := h.blk.cell 1
  have HB := Lib.hid (rrbin_any h hs)
  have hz := bin_small s R
  have hle := h.le
  have HLE := Lib.hid hle
  have HC := Lib.hid (fun (W1 : World) => rf_check (rBin s R).1 W1 (by omega))
  have hat := check_at (rBin s R).1
  have hbn := bin_none (s := s) (R := R)
  obtain ⟨q, hq⟩ : ∃ q, q = rText s R := ⟨_, rfl⟩
  rw [← hq]
  unfold rText at hq
  generalize rBin s R = b at *
  obtain ⟨t, R2⟩ := b
  simp only at *
  have HQ := Lib.hid hq
  clear h hq
  go_enter Tryz.func80, Tryz.ntmps80
  go_wp2_with fail
  refine HB.out.mono ?_
  rintro x w2 ⟨rfl, hN2⟩
  have HN2 := Lib.hid hN2
  clear hN2 HB c1
  have c2 : w2.cell? ⟨g, 2, none⟩ = some (.int .i64 R2.no) := HN2.out.obj.blk.cell 2
  by_cases h0 : R2.no = 0
  · rw [h0] at c2
    go_wp2_with fail
    refine (HC.out _).mono ?_
    rintro x w3 ⟨rfl, hb⟩
    have HN3 := Lib.hid (HN2.out.below hb)
    clear hb c2
    generalize checkOf t = c at *
    obtain ⟨no, a⟩ := c
    simp only at *
    by_cases h1 : no = 0
    · have hq := HQ.out
      rw [if_pos h1] at hq
      subst h1
      have HX := Lib.hid (show RRSays w g s (.string q.1) q.2 (.returned (.string t)) w3 from by rw [hq]; exact ⟨rfl, HN3.out⟩)
      clear hq HQ
      go_wp2_with fail
      go_ret
      exact HX.out
    · have hq := HQ.out
      rw [if_neg h1] at hq
      have hn1 : ¬ (no : Int) = 0 := by omega
      have y1 : w3.cell? ⟨g, 1, none⟩ = some (.int .i64 R2.p) := HN3.out.obj.blk.cell 1
      have y2 : w3.frozen? ⟨g, 1, none⟩ = false := HN3.out.obj.blk.frozen 1
      have HM := Lib.hid (HN3.out.trans (HN3.out.obj.moved HLE.out))
      have HF := Lib.hid (rrfail_any HM.out.obj no (R.p + 2 + a))
      have ep : ((R.p + 2 + a : Nat) : Int) = (R.p : Int) + 2 + (a : Int) := by omega
      rw [ep] at HF
      simp only at HF
      have q1 : IntKind.i64.wrap ((R.p : Int) + 2) = (R.p : Int) + 2 := IntWalk.i64_in _ (by omega)
      have q2 : IntKind.i64.wrap ((R.p : Int) + 2 + (a : Int)) = (R.p : Int) + 2 + (a : Int) := IntWalk.i64_in _ (by omega)
      have HQ2 := Lib.hid hq
      clear hq HQ h1
      go_wp2_with fail
      refine HF.out.mono ?_
      rintro x w4 ⟨rfl, hN4⟩
      have HX := Lib.hid (show RRSays w g s (.string q.1) q.2 (.returned (.string ⟨#[]⟩)) w4 from by rw [HQ2.out]; exact ⟨rfl, HM.out.trans hN4⟩)
      clear hN4 HF
      go_wp2_with fail
      go_ret
      exact HX.out
  · have hq := HQ.out
    have ht := hbn h0
    subst ht
    rw [check_empty, if_pos rfl] at hq
    have h1 : ¬ (R2.no : Int) = 0 := by omega
    have HX := Lib.hid (show RRSays w g s (.string q.1) q.2 (.returned (.string ⟨#[]⟩)) w2 from by rw [hq]; exact ⟨rfl, HN2.out⟩)
    clear hq HQ
    go_wp2_with fail
    go_ret
    exact HX.out
/-- What Do answers. -/
def RdoSays (w : World) (g : Nat) (s : ByteArray) (q : Nat × ByteArray × RV) (x : Ending) (w' : World) : Prop := x = .returned (.tuple #[.int .i64 q.1, .string q.2.1]) ∧ RRNext w w' g s q.2.2
theorem rrdo_1 (h : RRObj w g s R) (hs : s.size ≤ 900000) (n : Int) (t : ByteArray) :
    Calls Tryz.prog 81 #[.pointer (some ⟨g, 0, none⟩), .agg #[.int .i64 1, .int .i64 n, .string t]] w (RdoSays w g s ((rNum s 1 R).1, ⟨#[]⟩, (rNum s 1 R).2)) := by
  have hb0 : Below w.heap.size w (w.alloc (.cells #[.int .i64 1, .int .i64 n, .string t] 110)) := (Below.refl _ _).alloc (Nat.le_refl _) _
  have HC := Lib.hid ((rru8_any (h.below hb0) (by omega)).mono fun x w' hx => show x = _ ∧ RRNext w w' g s _ from ⟨hx.1, hx.2.pre hb0⟩)
  clear h hs hb0
  generalize rNum s 1 R = q at *
  go_enter Tryz.func81, Tryz.ntmps81
  go_wp2_with fail
  refine HC.out.mono ?_
  rintro x w1 ⟨rfl, hN⟩
  have HN := Lib.hid hN
  clear hN HC
  go_wp2
  go_ret2
  exact ⟨rfl, HN.out⟩
theorem rrdo_2 (h : RRObj w g s R) (hs : s.size ≤ 900000) (n : Int) (t : ByteArray) :
    Calls Tryz.prog 81 #[.pointer (some ⟨g, 0, none⟩), .agg #[.int .i64 2, .int .i64 n, .string t]] w (RdoSays w g s ((rNum s 2 R).1, ⟨#[]⟩, (rNum s 2 R).2)) := by
  have hb0 : Below w.heap.size w (w.alloc (.cells #[.int .i64 2, .int .i64 n, .string t] 110)) := (Below.refl _ _).alloc (Nat.le_refl _) _
  have HC := Lib.hid ((rru16_any (h.below hb0) (by omega)).mono fun x w' hx => show x = _ ∧ RRNext w w' g s _ from ⟨hx.1, hx.2.pre hb0⟩)
  clear h hs hb0
  generalize rNum s 2 R = q at *
  go_enter Tryz.func81, Tryz.ntmps81
  go_wp2_with fail
  refine HC.out.mono ?_
  rintro x w1 ⟨rfl, hN⟩
  have HN := Lib.hid hN
  clear hN HC
  go_wp2
  go_ret2
  exact ⟨rfl, HN.out⟩
theorem rrdo_4 (h : RRObj w g s R) (hs : s.size ≤ 900000) (n : Int) (t : ByteArray) :
    Calls Tryz.prog 81 #[.pointer (some ⟨g, 0, none⟩), .agg #[.int .i64 4, .int .i64 n, .string t]] w (RdoSays w g s ((rNum s 4 R).1, ⟨#[]⟩, (rNum s 4 R).2)) := by
  have hb0 : Below w.heap.size w (w.alloc (.cells #[.int .i64 4, .int .i64 n, .string t] 110)) := (Below.refl _ _).alloc (Nat.le_refl _) _
  have HC := Lib.hid ((rru32_any (h.below hb0) (by omega)).mono fun x w' hx => show x = _ ∧ RRNext w w' g s _ from ⟨hx.1, hx.2.pre hb0⟩)
  clear h hs hb0
  generalize rNum s 4 R = q at *
  go_enter Tryz.func81, Tryz.ntmps81
  go_wp2_with fail
  refine HC.out.mono ?_
  rintro x w1 ⟨rfl, hN⟩
  have HN := Lib.hid hN
  clear hN HC
  go_wp2
  go_ret2
  exact ⟨rfl, HN.out⟩
theorem rrdo_5 (h : RRObj w g s R) (hs : s.size ≤ 900000) (n : Int) (t : ByteArray) :
    Calls Tryz.prog 81 #[.pointer (some ⟨g, 0, none⟩), .agg #[.int .i64 5, .int .i64 n, .string t]] w (RdoSays w g s ((rVar s R).1, ⟨#[]⟩, (rVar s R).2)) := by
  have hb0 : Below w.heap.size w (w.alloc (.cells #[.int .i64 5, .int .i64 n, .string t] 110)) := (Below.refl _ _).alloc (Nat.le_refl _) _
  have HC := Lib.hid ((rrvar_any (h.below hb0) (by omega)).mono fun x w' hx => show x = _ ∧ RRNext w w' g s _ from ⟨hx.1, hx.2.pre hb0⟩)
  clear h hs hb0
  generalize rVar s R = q at *
  go_enter Tryz.func81, Tryz.ntmps81
  go_wp2_with fail
  refine HC.out.mono ?_
  rintro x w1 ⟨rfl, hN⟩
  have HN := Lib.hid hN
  clear hN HC
  go_wp2
  go_ret2
  exact ⟨rfl, HN.out⟩
theorem rrdo_6 (h : RRObj w g s R) (hs : s.size ≤ 900000) (n : Int) (t : ByteArray) :
    Calls Tryz.prog 81 #[.pointer (some ⟨g, 0, none⟩), .agg #[.int .i64 6, .int .i64 n, .string t]] w (RdoSays w g s (0, (rText s R).1, (rText s R).2)) := by
  have hb0 : Below w.heap.size w (w.alloc (.cells #[.int .i64 6, .int .i64 n, .string t] 110)) := (Below.refl _ _).alloc (Nat.le_refl _) _
  have HC := Lib.hid ((rrtext_any (h.below hb0) (by omega)).mono fun x w' hx => show x = _ ∧ RRNext w w' g s _ from ⟨hx.1, hx.2.pre hb0⟩)
  clear h hs hb0
  generalize rText s R = q at *
  go_enter Tryz.func81, Tryz.ntmps81
  go_wp2_with fail
  refine HC.out.mono ?_
  rintro x w1 ⟨rfl, hN⟩
  have HN := Lib.hid hN
  clear hN HC
  go_wp2
  go_ret2
  exact ⟨rfl, HN.out⟩
theorem rrdo_7 (h : RRObj w g s R) (hs : s.size ≤ 900000) (n : Int) (t : ByteArray) :
    Calls Tryz.prog 81 #[.pointer (some ⟨g, 0, none⟩), .agg #[.int .i64 7, .int .i64 n, .string t]] w (RdoSays w g s (0, (rBin s R).1, (rBin s R).2)) := by
  have hb0 : Below w.heap.size w (w.alloc (.cells #[.int .i64 7, .int .i64 n, .string t] 110)) := (Below.refl _ _).alloc (Nat.le_refl _) _
  have HC := Lib.hid ((rrbin_any (h.below hb0) (by omega)).mono fun x w' hx => show x = _ ∧ RRNext w w' g s _ from ⟨hx.1, hx.2.pre hb0⟩)
  clear h hs hb0
  generalize rBin s R = q at *
  go_enter Tryz.func81, Tryz.ntmps81
  go_wp2_with fail
  refine HC.out.mono ?_
  rintro x w1 ⟨rfl, hN⟩
  have HN := Lib.hid hN
  clear hN HC
  go_wp2
  go_ret2
  exact ⟨rfl, HN.out⟩
theorem rrdo_any (h : RRObj w g s R) (hs : s.size ≤ 900000) (k n : Int) (t : ByteArray) (hk : k = 1 ∨ k = 2 ∨ k = 4 ∨ k = 5 ∨ k = 6 ∨ k = 7) :
    Calls Tryz.prog 81 #[.pointer (some ⟨g, 0, none⟩), .agg #[.int .i64 k, .int .i64 n, .string t]] w (RdoSays w g s (rdA k s R)) := by
  unfold rdA
  rcases hk with rfl | rfl | rfl | rfl | rfl | rfl
  · rw [if_pos rfl]; exact rrdo_1 h hs n t
  · rw [if_neg (by omega), if_pos rfl]; exact rrdo_2 h hs n t
  · rw [if_neg (by omega), if_neg (by omega), if_pos rfl]; exact rrdo_4 h hs n t
  · rw [if_neg (by omega), if_neg (by omega), if_neg (by omega), if_pos rfl]; exact rrdo_5 h hs n t
  · rw [if_neg (by omega), if_neg (by omega), if_neg (by omega), if_neg (by omega), if_pos rfl]; exact rrdo_6 h hs n t
  · rw [if_neg (by omega), if_neg (by omega), if_neg (by omega), if_neg (by omega), if_neg (by omega)]; exact rrdo_7 h hs n t
/-- What Done answers. -/
def dnR (s : ByteArray) (R : RV) : Nat × Nat := if R.no = 0 then if R.p < s.size then (2, R.p) else (0, R.ea) else (R.no, R.ea)
theorem rrdone_any (h : RRObj w g s R) :
    Calls Tryz.prog 34 #[.pointer (some ⟨g, 0, none⟩)] w fun x w' => x = .returned (.tuple #[.int .i64 (dnR s R).1, .int .i64 (dnR s R).2]) ∧ Below w.heap.size w w' := by
  obtain ⟨hb, hle⟩ := h
  obtain ⟨p, no, ea⟩ := R
  simp only at *
  have c0 : w.cell? ⟨g, 0, none⟩ = some (.string s) := hb.cell 0
  have c1 : w.cell? ⟨g, 1, none⟩ = some (.int .i64 p) := hb.cell 1
  have c2 : w.cell? ⟨g, 2, none⟩ = some (.int .i64 no) := hb.cell 2
  have c3 : w.cell? ⟨g, 3, none⟩ = some (.int .i64 ea) := hb.cell 3
  clear hb
  unfold dnR
  simp only
  by_cases h0 : no = 0
  · subst h0
    rw [if_pos rfl]
    by_cases h1 : p < s.size
    · rw [if_pos h1]
      have d1 : decide ((p : Int) < (s.size : Int)) = true := by simp; omega
      go_enter Tryz.func34, Tryz.ntmps34
      go_wp2_with fail
      go_quiet (fail)
      go_wp2_with fail
      go_quiet (fail)
      go_wp2_with fail
      go_ret2
      exact ⟨rfl, below_drewN (below_drewN (Below.refl _ _) _) _⟩
    · rw [if_neg h1]
      have d1 : decide ((p : Int) < (s.size : Int)) = false := by simp; omega
      go_enter Tryz.func34, Tryz.ntmps34
      go_wp2_with fail
      go_quiet (fail)
      go_wp2_with fail
      go_quiet (fail)
      go_wp2_with fail
      go_ret2
      exact ⟨rfl, below_drewN (below_drewN (Below.refl _ _) _) _⟩
  · rw [if_neg h0]
    have d1 : decide ((no : Int) = 0) = false := by simp; omega
    have h1 : ¬ (no : Int) = 0 := by omega
    go_enter Tryz.func34, Tryz.ntmps34
    go_wp2_with fail
    go_quiet (fail)
    go_wp2_with fail
    go_quiet (fail)
    go_wp2_with fail
    go_ret2
    exact ⟨rfl, below_drewN (below_drewN (Below.refl _ _) _) _⟩
/-- A block of three cells, all of them stored anew. -/
theorem fcell3 {W : World} {g : Nat} {t : TypeId} {a b c : Value} (h : Blk W g t #[a, b, c]) (x y z : Value) :
    W.cell? ⟨g, 0, none⟩ = some a ∧ W.cell? ⟨g, 1, none⟩ = some b ∧ W.cell? ⟨g, 2, none⟩ = some c ∧ W.frozen? ⟨g, 0, none⟩ = false ∧ W.frozen? ⟨g, 1, none⟩ = false ∧ W.frozen? ⟨g, 2, none⟩ = false ∧ (W.setCell ⟨g, 0, none⟩ x).cell? ⟨g, 1, none⟩ = some b ∧ (W.setCell ⟨g, 0, none⟩ x).frozen? ⟨g, 1, none⟩ = false ∧ (W.setCell ⟨g, 0, none⟩ x).cell? ⟨g, 2, none⟩ = some c ∧ (W.setCell ⟨g, 0, none⟩ x).frozen? ⟨g, 2, none⟩ = false ∧ ((W.setCell ⟨g, 0, none⟩ x).setCell ⟨g, 1, none⟩ y).cell? ⟨g, 2, none⟩ = some c ∧ ((W.setCell ⟨g, 0, none⟩ x).setCell ⟨g, 1, none⟩ y).frozen? ⟨g, 2, none⟩ = false ∧ (((W.setCell ⟨g, 0, none⟩ x).setCell ⟨g, 1, none⟩ y).setCell ⟨g, 2, none⟩ z).cell? ⟨g, 0, none⟩ = some x ∧ (((W.setCell ⟨g, 0, none⟩ x).setCell ⟨g, 1, none⟩ y).setCell ⟨g, 2, none⟩ z).cell? ⟨g, 1, none⟩ = some y ∧ (((W.setCell ⟨g, 0, none⟩ x).setCell ⟨g, 1, none⟩ y).setCell ⟨g, 2, none⟩ z).cell? ⟨g, 2, none⟩ = some z := by
  have h1 := h.store 0 x
  have h2 := h1.store 1 y
  have h3 := h2.store 2 z
  exact ⟨h.cell 0, h.cell 1, h.cell 2, h.frozen 0, h.frozen 1, h.frozen 2, h1.cell 1, h1.frozen 1, h1.cell 2, h1.frozen 2, h2.cell 2, h2.frozen 2, h3.cell 0, h3.cell 1, h3.cell 2⟩
/-- What Of answers: no error, or one at its place. -/
def ofR (q : Nat × Nat) : Nat × Int × Nat := if q.1 = 0 then (0, 0, 0) else (q.1, 129, q.2)
def fltV (q : Nat × Int × Nat) : Value := .agg #[.int .i64 q.1, .int .i64 q.2.1, .int .i64 q.2.2]
end
end Go.Proofs.YtnolnhpmpjgnaaaGreatDoor
