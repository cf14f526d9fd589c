/- What is proved here: the document's Put and Scan of a log tell what plain functions say. Conditions: few bytes. -/
import Derived.Test.YthplhdepllloaaaDoorScn22
import Derived.Test.YthplhdepllloaaaDoorRrr04
import Derived.Test.YthplhdepllloaaaDoorRwr04
namespace Go.Proofs.YthplhdepllloaaaDoor
set_option maxRecDepth 100000
open Go.RowKit Go.Extern.Stop Go.Stop Go.Extern
theorem ba_app (l m : List UInt8) : (⟨l.toArray⟩ : ByteArray) ++ ⟨m.toArray⟩ = ⟨(l ++ m).toArray⟩ := ba_eq (by simp)
section
variable {w w' : World} {S : Nat → Addr}
set_option maxHeartbeats 4000000 in
theorem refput_any (b : ByteArray) (hb : b.size ≤ 9000) (w : World) : Calls Tryd.prog 12 #[.string b] w fun x w' => x = .returned (.string ⟨(frW b).toArray⟩) ∧ Below w.heap.size w w' := by
  obtain ⟨n4, hn4⟩ : ∃ t : ByteArray, t = ⟨(be 4 b.size).toArray⟩ := ⟨_, rfl⟩
  obtain ⟨m4, hm4⟩ : ∃ t : ByteArray, t = ⟨(be 4 (crcW b)).toArray⟩ := ⟨_, rfl⟩
  have hz1 : n4.size = 4 := by rw [hn4, bsize, be_len]
  have hz2 : m4.size = 4 := by rw [hm4, bsize, be_len]
  obtain ⟨c1, hc1, ec1, zc1⟩ := cat_run n4 b (by omega)
  obtain ⟨c2, hc2, ec2, zc2⟩ := cat_run n4 m4 (by omega)
  obtain ⟨c3, hc3, ec3, zc3⟩ := cat_run c2 b (by omega)
  have HN := Lib.hid (fun W => rnum_any 4 b.size W (by omega) (by omega))
  have HM := Lib.hid (fun W => rnum_any 4 (crcW b) W (by omega) (by have := crcW_lt b; omega))
  have hsum := fun W => refsum_any c1 W (by omega)
  have e1 : c1.data.toList = be 4 b.size ++ b.data.toList := by rw [ec1, hn4]; simp
  rw [e1, ← crcW_eq] at hsum
  rw [← hn4] at HN
  rw [← hm4] at HM
  have HSU := Lib.hid hsum
  have HFR := Lib.hid (show (⟨(frW b).toArray⟩ : ByteArray) = c3 by
    apply ba_eq
    rw [ec3, ec2, hn4, hm4]
    unfold frW
    simp)
  rw [HFR.out]
  generalize crcW b = cw at *
  clear hn4 hm4 hz1 hz2 ec1 zc1 ec2 zc2 ec3 zc3 hsum e1 HFR
  go_enter Tryd.func12, Tryd.ntmps12
  go_wp2_with fail
  refine (HN.out w).mono ?_
  rintro x w1 ⟨rfl, hb1⟩
  have HB1 := Lib.hid hb1
  clear hb1 HN
  go_wp2_with fail
  refine (HSU.out w1).mono ?_
  rintro x w2 ⟨rfl, rfl⟩
  go_wp2_with fail
  refine (HM.out w1).mono ?_
  rintro x w3 ⟨rfl, hb3⟩
  have HB3 := Lib.hid (HB1.out.trans (hb3.mono HB1.out.size))
  clear hb3 HM HSU HB1
  go_wp2_with fail
  go_ret
  exact ⟨rfl, HB3.out⟩
end
/-- What the document's Scan holds. -/
structure RcIn (w W : World) (v : Value) (P : List ByteArray) : Prop where
  row : Row W w.heap.size v P
  bel : Below w.heap.size w W
section
variable {w W W' : World} {S : Nat → Addr} {p p' : Nat} {s : ByteArray} {v v' : Value} {P P' : List ByteArray}
theorem RcIn.below (h : RcIn w W v P) (hb : Below W.heap.size W W') : RcIn w W' v P := ⟨h.row.below hb, h.bel.trans (hb.mono h.bel.size)⟩
theorem RcIn.grown (h : RcIn w W v P) (hr : Row W' w.heap.size v' P') (hg : W.grownBy W' v.ownBlock) : RcIn w W' v' P' :=
  ⟨hr, ⟨hg.os.trans h.bel.os, hg.tape.trans h.bel.tape, hg.output.trans h.bel.output, Nat.le_trans h.bel.size hg.size, fun k hk => (hg.block k (Nat.lt_of_lt_of_le hk h.bel.size) fun e => by
    have := (h.row.lt22 k e.symm).1
    omega).trans (h.bel.block k hk)⟩⟩
theorem RcIn.rr {g : Nat} {t : ByteArray} {R R' : RV} (h : RcIn w W v P) (ho : RRObj W g t R) (hg : w.heap.size ≤ g) (hn : RRNext W W' g t R') : RcIn w W' v P :=
  ⟨h.row.fr hn.fr fun k hk hm => by
    rw [List.mem_singleton] at hm
    obtain ⟨_, _, cs, hh⟩ := h.row.lt22 k hk
    exact ho.blk.other hh (by decide) hm.symm, hn.later hg h.bel.size h.bel⟩
/-- Why the document's Scan stops, or how it goes on. -/
theorem rc_cases {t : ByteArray} : (nxW t = none ∧ ((nxS t).2.no ≠ 0 ∨ ((nxS t).2.no = 0 ∧ 65536 < (nxN t).1) ∨ ((nxS t).2.no = 0 ∧ (nxN t).1 ≤ 65536 ∧ 8 ≤ t.size ∧ t.size - 8 < (nxN t).1) ∨ ((nxS t).2.no = 0 ∧ (nxN t).1 ≤ 65536 ∧ 8 + (nxN t).1 ≤ t.size ∧ (nxB t).2.no = 0 ∧ (nxB t).1.size = (nxN t).1 ∧ (nxS t).1 ≠ crcW (nxB t).1))) ∨
    (∃ b, nxW t = some b ∧ (nxS t).2.no = 0 ∧ (nxN t).1 = b.size ∧ b.size ≤ 65536 ∧ 8 + b.size ≤ t.size ∧ (nxB t).1 = b ∧ (nxS t).1 = crcW b) := by
  by_cases h0 : (nxS t).2.no = 0
  · obtain ⟨k5, k6, k7, _⟩ := take_no (t := t) (n := 4) (R := (nxN t).2) h0
    obtain ⟨_, k8, k9, _⟩ := take_no (t := t) (n := 4) (R := r00) k5
    have e1 : (nxN t).2 = ⟨4, 0, 0⟩ := k9
    have e2 : (nxS t).2 = ⟨8, 0, 0⟩ := by
      have e : (nxS t).2 = ⟨(nxN t).2.p + 4, 0, (nxN t).2.ea⟩ := k7
      rw [e, e1]
    have h8 : 8 ≤ t.size := by
      rw [e1] at k6
      exact k6
    by_cases h1 : 65536 < (nxN t).1
    · refine .inl ⟨?_, .inr (.inl ⟨h0, h1⟩)⟩
      unfold nxW
      rw [if_pos h1]
    · by_cases h2 : 8 + (nxN t).1 ≤ t.size
      · have hB : nxB t = (t.extract 8 (8 + (nxN t).1), ⟨8 + (nxN t).1, 0, 0⟩) := by
          unfold nxB rTake
          rw [e2, if_pos rfl, if_neg (by show ¬ t.size < 8 + (nxN t).1; omega)]
        have hz : (nxB t).1.size = (nxN t).1 := by
          rw [hB]
          show (t.extract 8 (8 + (nxN t).1)).size = _
          rw [← bLen, ext_list, List.length_take, List.length_drop, bLen]
          omega
        have hno : (nxB t).2.no = 0 := by rw [hB]
        by_cases h3 : (nxS t).1 = crcW (nxB t).1
        · refine .inr ⟨(nxB t).1, ?_, h0, hz.symm, by omega, by omega, rfl, h3⟩
          unfold nxW
          rw [if_neg h1, if_pos ⟨hno, h3⟩]
        · refine .inl ⟨?_, .inr (.inr (.inr ⟨h0, by omega, h2, hno, hz, h3⟩))⟩
          unfold nxW
          rw [if_neg h1, if_neg (fun hh => h3 hh.2)]
      · refine .inl ⟨?_, .inr (.inr (.inl ⟨h0, by omega, h8, by omega⟩))⟩
        have hB : (nxB t).2.no ≠ 0 := by
          intro hh
          have h9 := (take_no (t := t) (n := (nxN t).1) (R := (nxS t).2) hh).2.1
          rw [e2] at h9
          have h10 : 8 + (nxN t).1 ≤ t.size := h9
          omega
        unfold nxW
        rw [if_neg h1, if_neg (fun hh => hB hh.1)]
  · refine .inl ⟨?_, .inl h0⟩
    have hB : (nxB t).2.no ≠ 0 := by
      unfold nxB
      rw [rTake_stuck h0]
      exact h0
    unfold nxW
    split
    · rfl
    · rw [if_neg (fun hh => hB hh.1)]
end
end Go.Proofs.YthplhdepllloaaaDoor
