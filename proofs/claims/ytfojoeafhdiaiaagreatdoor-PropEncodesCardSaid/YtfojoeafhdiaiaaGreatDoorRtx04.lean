/- What is proved here: the texts that a Reader of package field reads. Conditions: the reader is there; what the rows list of the package's variables stays, while the reader changes. -/
import Derived.Test.YtfojoeafhdiaiaaGreatDoorRbt04
import Derived.Test.YtfojoeafhdiaiaaGreatDoorWlw04
namespace Go.Proofs.YtfojoeafhdiaiaaGreatDoor
set_option maxRecDepth 100000
open Go.RowKit Go.Extern.Stop Go.Stop Go.Extern
theorem take_small (s : ByteArray) (n : Nat) (R : RV) : (rTake s n R).1.size ≤ s.size := by
  unfold rTake
  split
  · split
    · exact Nat.zero_le _
    · simp; omega
  · exact Nat.zero_le _
theorem bin_small (s : ByteArray) (R : RV) : (rBin s R).1.size ≤ s.size := take_small _ _ _
section
variable {w w' : World} {S : Nat → Addr} {B g : Nat} {s : ByteArray} {R : RV}
theorem rtext_ok (hE : ∀ w1, Fr [g] w w1 → Env w1 S) (h : RObj w S g s R) (hs : s.size ≤ 900000) (hc : (checkOf (rBin s R).1).1 = 0) :
    Calls Tryz.prog 89 #[.pointer (some ⟨g, 0, none⟩)] w (TSays w S g s (.string (rBin s R).1) (rBin s R).2) := by
  have HA := Lib.hid (rat_any h)
  have HB := Lib.hid (rbin_any hE h hs)
  have hz := bin_small s R
  have HC := Lib.hid (fun (W1 : World) (hf : Fr [g] w W1) => ut_check S (rBin s R).1 W1 (hE W1 hf) (by omega))
  rw [(check_zero hc).2.2] at HC
  clear h hE hc hz
  generalize rBin s R = q at *
  go_enter Tryz.func89, Tryz.ntmps89
  go_wp2_with fail
  refine HA.out.mono ?_
  rintro x w1 ⟨rfl, rfl⟩
  go_wp2_with fail
  refine HB.out.mono ?_
  rintro x w2 ⟨rfl, hN2⟩
  have HN2 := Lib.hid hN2
  clear hN2
  go_wp2_with fail
  refine (HC.out _ HN2.out.fr).mono ?_
  rintro x w3 ⟨e, rfl, he, hb⟩
  obtain rfl : e = .nilIface := he
  have HN3 := Lib.hid (HN2.out.below hb)
  clear hb
  go_wp2_with fail
  go_ret
  exact ⟨rfl, HN3.out⟩
theorem rtext_bad (hE : ∀ w1, Fr [g] w w1 → Env w1 S) (h : RObj w S g s R) (hs : s.size ≤ 900000) (hc : (checkOf (rBin s R).1).1 ≠ 0) :
    Calls Tryz.prog 89 #[.pointer (some ⟨g, 0, none⟩)] w (TSays w S g s (.string ⟨#[]⟩) ⟨R.p, (checkOf (rBin s R).1).1, R.p + 2 + (checkOf (rBin s R).1).2⟩) := by
  have HA := Lib.hid (rat_any h)
  have HB := Lib.hid (rbin_any hE h hs)
  have hz := bin_small s R
  have hle := h.le
  have HLE := Lib.hid hle
  have HC := Lib.hid (fun (W1 : World) (hf : Fr [g] w W1) => ut_check S (rBin s R).1 W1 (hE W1 hf) (by omega))
  have hat := check_at (rBin s R).1
  have HW := Lib.hid hE
  clear h hE hz
  generalize rBin s R = q at *
  obtain ⟨t, R2⟩ := q
  simp only at *
  generalize checkOf t = c at *
  obtain ⟨no, a⟩ := c
  simp only at *
  go_enter Tryz.func89, Tryz.ntmps89
  go_wp2_with fail
  refine HA.out.mono ?_
  rintro x w1 ⟨rfl, rfl⟩
  go_wp2_with fail
  refine HB.out.mono ?_
  rintro x w2 ⟨rfl, hN2⟩
  have HN2 := Lib.hid hN2
  clear hN2
  go_wp2_with fail
  refine (HC.out _ HN2.out.fr).mono ?_
  rintro x w3 ⟨e, rfl, he, hb⟩
  obtain ⟨t3, u3, rfl⟩ := err_iface he hc
  have HN3 := Lib.hid (HN2.out.below hb)
  have HX := Lib.hid he
  clear hb he
  have HAT := Lib.hid hat
  clear hat
  go_wp2_with fail
  have hsum : (R.p : Int) + 2 = ((R.p + 2 : Nat) : Int) := by omega
  rw [hsum]
  refine (deeper_err (b := R.p + 2) (HW.out _ HN3.out.fr) HX.out hc (by have := HAT.out; omega) (by omega)).mono ?_
  rintro x w4 ⟨e4, rfl, he4, hb4⟩
  rw [Nat.add_comm a (R.p + 2)] at he4
  have h4 := HN3.out.below hb4
  have hm := h4.obj.moved (p := R.p) HLE.out
  have hx := hm.obj.failed (err_fr he4 hm.fr h4.obj.nof)
  obtain ⟨t4, u4, rfl⟩ := err_iface he4 hc
  obtain ⟨e5, hb5, _⟩ := h4.obj.blk
  have y0 : w4.cell? ⟨g, 1, none⟩ = some (.int .i64 R2.p) := hb5.cell 1
  have y1 : w4.frozen? ⟨g, 1, none⟩ = false := hb5.frozen 1
  have hb6 := hb5.store 1 (.int .i64 R.p)
  have y2 : (w4.setCell ⟨g, 1, none⟩ (.int .i64 R.p)).cell? ⟨g, 2, none⟩ = some e5 := hb6.cell 2
  have y3 : (w4.setCell ⟨g, 1, none⟩ (.int .i64 R.p)).frozen? ⟨g, 2, none⟩ = false := hb6.frozen 2
  have HF := Lib.hid ((h4.trans hm).trans hx)
  clear h4 hm hx hb5 hb6 hb4 he4 hsum
  go_wp2_with fail
  go_ret
  exact ⟨rfl, HF.out⟩
theorem rdtext_any (hE : ∀ w1, Fr [g] w w1 → Env w1 S) (h : RObj w S g s R) (hs : s.size ≤ 900000) :
    Calls Tryz.prog 89 #[.pointer (some ⟨g, 0, none⟩)] w (TSays w S g s (.string (rText s R).1) (rText s R).2) := by
  unfold rText
  by_cases hc : (checkOf (rBin s R).1).1 = 0
  · rw [if_pos hc]
    exact rtext_ok hE h hs hc
  · rw [if_neg hc]
    exact rtext_bad hE h hs hc
end
end Go.Proofs.YtfojoeafhdiaiaaGreatDoor
