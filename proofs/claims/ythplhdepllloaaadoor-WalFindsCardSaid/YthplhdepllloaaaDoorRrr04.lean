/- What is proved here: the document's own reader of fields: where it is, so many bytes, numbers, bytes. Conditions: the reader is there, with few bytes. -/
import Derived.Test.YthplhdepllloaaaDoorRaw04
namespace Go.Proofs.YthplhdepllloaaaDoor
set_option maxRecDepth 100000
open Go.RowKit Go.Extern.Stop Go.Stop Go.Extern
structure RRObj (w : World) (g : Nat) (s : ByteArray) (R : RV) : Prop where
  blk : Blk w g 70 #[.string s, .int .i64 R.p, .int .i64 R.no, .int .i64 R.ea]
  le : R.p ≤ s.size
structure RRNext (w w' : World) (g : Nat) (s : ByteArray) (R' : RV) : Prop where
  obj : RRObj w' g s R'
  fr : Fr [g] w w'
section
variable {w w' w2 : World} {B g : Nat} {s : ByteArray} {R R' R2 : RV} {X : List Nat}
theorem RRObj.lt (h : RRObj w g s R) : g < w.heap.size := h.blk.lt
theorem RRObj.fr (h : RRObj w g s R) (hf : Fr X w w') (hg : g ∉ X) : RRObj w' g s R := ⟨h.blk.fr hf hg, h.le⟩
theorem RRObj.below (h : RRObj w g s R) (hb : Below w.heap.size w w') : RRObj w' g s R := h.fr (X := []) (Fr.of_below hb) (by simp)
theorem RRObj.step (h : RRObj w g s R) (hb : Below w.heap.size w w') : RRNext w w' g s R := ⟨h.below hb, Fr.of_below hb⟩
theorem RRNext.trans (h : RRNext w w' g s R') (h2 : RRNext w' w2 g s R2) : RRNext w w2 g s R2 := ⟨h2.obj, h.fr.trans h2.fr fun _ hk _ => hk⟩
theorem RRNext.below (h : RRNext w w' g s R') (hb : Below w'.heap.size w' w2) : RRNext w w2 g s R' := h.trans (h.obj.step hb)
theorem RRNext.pre (h : RRNext w' w2 g s R') (hb : Below w.heap.size w w') : RRNext w w2 g s R' := ⟨h.obj, (Fr.of_below (X := [g]) hb).trans h.fr fun _ hk _ => hk⟩
theorem RRNext.later (h : RRNext w' w2 g s R') (hg : B ≤ g) (hB : B ≤ w'.heap.size) (hb : Below B w w') : Below B w w2 := h.fr.later hb (fun b hx => by rw [List.mem_singleton] at hx; omega) hB
theorem RRObj.made (w : World) (s : ByteArray) : RRObj (w.alloc (.cells #[.string s, .int .i64 0, .int .i64 0, .int .i64 0] 70)) w.heap.size s ⟨0, 0, 0⟩ := ⟨Blk.made w _ _, Nat.zero_le _⟩
/-- Its place is another. -/
theorem RRObj.moved (h : RRObj w g s R) {p : Nat} (hp : p ≤ s.size) : RRNext w (w.setCell ⟨g, 1, none⟩ (.int .i64 p)) g s ⟨p, R.no, R.ea⟩ :=
  ⟨⟨h.blk.store 1 _, hp⟩, (Fr.refl [g] w).setCell (p := ⟨g, 1, none⟩) (.inl (List.mem_singleton_self g)) _⟩
theorem rrfail_any (h : RRObj w g s R) (no a : Nat) :
    Calls Tryd.prog 95 #[.pointer (some ⟨g, 0, none⟩), .int .i64 no, .int .i64 a] w fun x w' => x = .returned (.tuple #[]) ∧ RRNext w w' g s ⟨R.p, no, a⟩ := by
  obtain ⟨hb, hle⟩ := h
  have c1 : w.cell? ⟨g, 2, none⟩ = some (.int .i64 R.no) := hb.cell 2
  have d1 : w.frozen? ⟨g, 2, none⟩ = false := hb.frozen 2
  have hb2 := hb.store 2 (.int .i64 no)
  have c2 : (w.setCell ⟨g, 2, none⟩ (.int .i64 no)).cell? ⟨g, 3, none⟩ = some (.int .i64 R.ea) := hb2.cell 3
  have d2 : (w.setCell ⟨g, 2, none⟩ (.int .i64 no)).frozen? ⟨g, 3, none⟩ = false := hb2.frozen 3
  have hb3 := hb2.store 3 (.int .i64 a)
  have hf : Fr [g] w ((w.setCell ⟨g, 2, none⟩ (.int .i64 no)).setCell ⟨g, 3, none⟩ (.int .i64 a)) := ((Fr.refl [g] w).setCell (p := ⟨g, 2, none⟩) (.inl (List.mem_singleton_self g)) _).setCell (p := ⟨g, 3, none⟩) (.inl (List.mem_singleton_self g)) _
  have HF := Lib.hid (show RRNext w _ g s ⟨R.p, no, a⟩ from ⟨⟨hb3, hle⟩, hf⟩)
  clear hb hb2 hb3 hf
  go_enter Tryd.func95, Tryd.ntmps95
  go_wp2
  exact bodyPost_end (v := .tuple #[]) (by simp [results, Tryd.results95, go_sem]) rfl ⟨rfl, HF.out⟩
/-- What a method of a reader says. -/
def RRSays (w : World) (g : Nat) (s : ByteArray) (r : Value) (R' : RV) (x : Ending) (w' : World) : Prop := x = .returned r ∧ RRNext w w' g s R'
theorem rrtake_stuck (h : RRObj w g s R) (h0 : R.no ≠ 0) (n : Nat) :
    Calls Tryd.prog 74 #[.pointer (some ⟨g, 0, none⟩), .int .i64 n] w (RRSays w g s (.tuple #[.string ⟨#[]⟩, .bool false]) R) := by
  have c2 : w.cell? ⟨g, 2, none⟩ = some (.int .i64 R.no) := h.blk.cell 2
  have HS := Lib.hid (h.step (Below.refl _ _))
  have h1 : ¬ (R.no : Int) = 0 := by omega
  clear h h0
  go_enter Tryd.func74, Tryd.ntmps74
  go_wp2
  go_ret2
  exact ⟨rfl, HS.out⟩
theorem rrtake_short (h : RRObj w g s R) (h0 : R.no = 0) (hs : s.size ≤ 1000000) (n : Nat) (hn : s.size < R.p + n) :
    Calls Tryd.prog 74 #[.pointer (some ⟨g, 0, none⟩), .int .i64 n] w (RRSays w g s (.tuple #[.string ⟨#[]⟩, .bool false]) ⟨R.p, 1, s.size⟩) := by
  obtain ⟨p, no, ea⟩ := R
  simp only at *
  subst h0
  have hp := h.le
  simp only at hp
  have c0 : w.cell? ⟨g, 0, none⟩ = some (.string s) := h.blk.cell 0
  have c1 : w.cell? ⟨g, 1, none⟩ = some (.int .i64 p) := h.blk.cell 1
  have c2 : w.cell? ⟨g, 2, none⟩ = some (.int .i64 0) := h.blk.cell 2
  have HF := Lib.hid (fun d => rrfail_any (h.below (below_drewN (Below.refl _ _) d)) 1 s.size)
  have KC := Lib.hid (fun d => show (w.drewN d).cell? ⟨g, 0, none⟩ = some (.string s) from (h.below (below_drewN (Below.refl _ _) d)).blk.cell 0)
  have hge : (s.size : Int) - (p : Int) < (n : Int) := by omega
  clear h
  go_enter Tryd.func74, Tryd.ntmps74
  go_wp2_with fail
  go_quiet (fail)
  have t0 := KC.out
  go_wp2_with fail
  refine (HF.out _).mono ?_
  rintro x w1 ⟨rfl, hN⟩
  have HN := Lib.hid (hN.pre (below_drewN (Below.refl _ _) _))
  clear hN
  go_wp2_with fail
  go_ret2
  exact ⟨rfl, HN.out⟩
theorem rrtake_ok (h : RRObj w g s R) (h0 : R.no = 0) (hs : s.size ≤ 1000000) (n : Nat) (hn : R.p + n ≤ s.size) :
    Calls Tryd.prog 74 #[.pointer (some ⟨g, 0, none⟩), .int .i64 n] w (RRSays w g s (.tuple #[.string (s.extract R.p (R.p + n)), .bool true]) ⟨R.p + n, 0, R.ea⟩) := by
  obtain ⟨p, no, ea⟩ := R
  simp only at *
  subst h0
  have c0 : w.cell? ⟨g, 0, none⟩ = some (.string s) := h.blk.cell 0
  have c1 : w.cell? ⟨g, 1, none⟩ = some (.int .i64 p) := h.blk.cell 1
  have c2 : w.cell? ⟨g, 2, none⟩ = some (.int .i64 0) := h.blk.cell 2
  have HF := Lib.hid (fun d => ((h.below (below_drewN (Below.refl _ _) d)).moved (p := p + n) hn).pre (below_drewN (Below.refl w.heap.size w) d))
  have c3 : w.frozen? ⟨g, 1, none⟩ = false := h.blk.frozen 1
  have hge : ¬ (s.size : Int) - (p : Int) < (n : Int) := by omega
  have q1 : IntKind.i64.wrap ((p : Int) + (n : Int)) = (p : Int) + (n : Int) := IntWalk.i64_in _ (by omega)
  clear h
  go_enter Tryd.func74, Tryd.ntmps74
  go_wp2_with fail
  go_quiet (fail)
  go_wp2_with fail
  go_quiet (fail)
  go_wp2
  go_ret2
  exact ⟨rfl, HF.out _⟩
theorem rrtake_any (h : RRObj w g s R) (hs : s.size ≤ 1000000) (n : Nat) : ∃ b : Bool, (b = true ∨ (rTake s n R).1.size = 0) ∧
    Calls Tryd.prog 74 #[.pointer (some ⟨g, 0, none⟩), .int .i64 n] w (RRSays w g s (.tuple #[.string (rTake s n R).1, .bool b]) (rTake s n R).2) := by
  unfold rTake
  by_cases h0 : R.no = 0
  · rw [if_pos h0]
    by_cases h1 : s.size < R.p + n
    · rw [if_pos h1]
      exact ⟨false, .inr rfl, rrtake_short h h0 hs n h1⟩
    · rw [if_neg h1]
      exact ⟨true, .inl rfl, rrtake_ok h h0 hs n (by omega)⟩
  · rw [if_neg h0]
    exact ⟨false, .inr rfl, rrtake_stuck h h0 n⟩
set_option maxHeartbeats 1000000 in
theorem rrnumber_any (h : RRObj w g s R) (hs : s.size ≤ 1000000) (k : Nat) (hk : k ≤ 4) :
    Calls Tryd.prog 73 #[.pointer (some ⟨g, 0, none⟩), .int .i64 k] w (RRSays w g s (.int .i64 (rNum s k R).1) (rNum s k R).2) := by
  obtain ⟨b, hb, ht⟩ := rrtake_any h hs k
  have HT := Lib.hid ht
  have hz := take_size s k R
  have e1 : (rNum s k R).1 = bv (rTake s k R).1.data.toList := rfl
  have e2 : (rNum s k R).2 = (rTake s k R).2 := rfl
  rw [e1, e2]
  generalize (rTake s k R).2 = R' at *
  generalize (rTake s k R).1 = t at *
  have hb4 : t.size ≤ 4 := by omega
  clear e1 e2 hz h hs ht
  go_enter Tryd.func73, Tryd.ntmps73
  go_wp2_with fail
  refine HT.out.mono ?_
  rintro x w1 ⟨rfl, hN⟩
  have HN := Lib.hid hN
  clear hN HT
  go_wp2_with fail
  have HA := Lib.hid (preB_all t)
  go_loopg [7, 8] t.size (fun f x y wr => w1 = wr ∧ ∃ i : Nat, f = t.size - i ∧ i ≤ t.size ∧ x = .int .i64 (preB t i : Nat) ∧ y = .int .i64 i)
  case atStart => exact ⟨rfl, 0, rfl, Nat.zero_le _, rfl, rfl⟩
  case round =>
    obtain ⟨rfl, i, rfl, hi, rfl, rfl⟩ := hrel
    by_cases hlt : i < t.size
    · obtain rfl : b = true := hb.elim id fun h => by omega
      have hp := preB_succ hlt
      have hq := preB_lt t i (by omega)
      have hv := t[i].toNat_lt
      have HP := Lib.hid hp
      clear hp
      obtain ⟨r, hrr⟩ : ∃ r, preB t i * 256 + t[i].toNat = r := ⟨_, rfl⟩
      have HR := Lib.hid hrr
      have hr : ((preB t i : Nat) : Int) * 256 + ((t[i].toNat : Nat) : Int) = (r : Int) := by omega
      clear hrr
      generalize hqq : preB t i = q at *
      have hq' : (q : Int) < 4294967296 := by omega
      clear hqq
      go_wp2
      go_roundg (t.size - (i + 1))
      case rel => exact ⟨rfl, i + 1, rfl, hlt, by rw [HP.out, HR.out], by go_num⟩
      case measure => omega
    · obtain rfl : i = t.size := by omega
      have hA := HA.out
      rw [hA]
      go_wp2
      go_ret
      exact ⟨rfl, HN.out⟩
theorem rru8_any (h : RRObj w g s R) (hs : s.size ≤ 1000000) :
    Calls Tryd.prog 57 #[.pointer (some ⟨g, 0, none⟩)] w (RRSays w g s (.int .i64 (rNum s 1 R).1) (rNum s 1 R).2) := by
  have HN := Lib.hid (rrnumber_any h hs 1 (by omega))
  clear h hs
  generalize rNum s 1 R = q at *
  go_enter Tryd.func57, Tryd.ntmps57
  go_wp2_with fail
  refine HN.out.mono ?_
  rintro x w1 ⟨rfl, hN⟩
  have HF := Lib.hid hN
  clear hN
  go_wp2
  go_ret
  exact ⟨rfl, HF.out⟩
theorem rru16_any (h : RRObj w g s R) (hs : s.size ≤ 1000000) :
    Calls Tryd.prog 56 #[.pointer (some ⟨g, 0, none⟩)] w (RRSays w g s (.int .i64 (rNum s 2 R).1) (rNum s 2 R).2) := by
  have HN := Lib.hid (rrnumber_any h hs 2 (by omega))
  clear h hs
  generalize rNum s 2 R = q at *
  go_enter Tryd.func56, Tryd.ntmps56
  go_wp2_with fail
  refine HN.out.mono ?_
  rintro x w1 ⟨rfl, hN⟩
  have HF := Lib.hid hN
  clear hN
  go_wp2
  go_ret
  exact ⟨rfl, HF.out⟩
theorem rru32_any (h : RRObj w g s R) (hs : s.size ≤ 1000000) :
    Calls Tryd.prog 33 #[.pointer (some ⟨g, 0, none⟩)] w (RRSays w g s (.int .i64 (rNum s 4 R).1) (rNum s 4 R).2) := by
  have HN := Lib.hid (rrnumber_any h hs 4 (by omega))
  clear h hs
  generalize rNum s 4 R = q at *
  go_enter Tryd.func33, Tryd.ntmps33
  go_wp2_with fail
  refine HN.out.mono ?_
  rintro x w1 ⟨rfl, hN⟩
  have HF := Lib.hid hN
  clear hN
  go_wp2
  go_ret
  exact ⟨rfl, HF.out⟩
theorem rrraw_any (h : RRObj w g s R) (hs : s.size ≤ 1000000) (n : Nat) :
    Calls Tryd.prog 34 #[.pointer (some ⟨g, 0, none⟩), .int .i64 n] w (RRSays w g s (.string (rTake s n R).1) (rTake s n R).2) := by
  obtain ⟨b, hb, ht⟩ := rrtake_any h hs n
  have HT := Lib.hid ht
  clear h hs hb ht
  generalize rTake s n R = q at *
  go_enter Tryd.func34, Tryd.ntmps34
  go_wp2_with fail
  refine HT.out.mono ?_
  rintro x w1 ⟨rfl, hN⟩
  have HF := Lib.hid hN
  clear hN
  go_wp2
  go_ret
  exact ⟨rfl, HF.out⟩
end
end Go.Proofs.YthplhdepllloaaaDoor
