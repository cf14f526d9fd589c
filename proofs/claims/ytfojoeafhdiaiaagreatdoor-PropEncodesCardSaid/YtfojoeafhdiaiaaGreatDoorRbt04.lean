/- What is proved here: what a Reader of package field reads: bytes and texts with their length ahead; whether it is done; a new one. Conditions: the reader is there; what the rows list of the package's variables stays, while the reader changes. -/
import Derived.Test.YtfojoeafhdiaiaaGreatDoorRrw04
namespace Go.Proofs.YtfojoeafhdiaiaaGreatDoor
set_option maxRecDepth 100000
open Go.RowKit Go.Extern.Stop Go.Stop Go.Extern
section
variable {w w' : World} {S : Nat → Addr} {B g : Nat} {s : ByteArray} {R : RV}
theorem rnew_any (s : ByteArray) (w : World) : Calls Tryz.prog 23 #[.string s] w fun x w' => x = .returned (.pointer (some ⟨w.heap.size, 0, none⟩)) ∧ w' = w.alloc (.cells #[.string s, .int .i64 0, .nilIface] 77) := by
  go_enter Tryz.func23, Tryz.ntmps23
  go_wp2_with fail
  go_ret
  exact ⟨rfl, rfl⟩
theorem rbin_any (hE : ∀ w1, Fr [g] w w1 → Env w1 S) (h : RObj w S g s R) (hs : s.size ≤ 900000) :
    Calls Tryz.prog 90 #[.pointer (some ⟨g, 0, none⟩)] w (TSays w S g s (.string (rBin s R).1) (rBin s R).2) := by
  have HA := Lib.hid (rat_any h)
  have HU := Lib.hid (ru16_any (hE w (Fr.refl _ _)) h (by omega))
  have HW := Lib.hid hE
  have HTK := Lib.hid (fun (W1 : World) (R1 : RV) (n : Nat) (hf : Fr [g] w W1) (h : RObj W1 S g s R1) => rtake_any (hE W1 hf) h (by omega) n)
  have hle := h.le
  have HLE := Lib.hid hle
  clear h hE hle
  unfold rBin
  generalize rNum s 2 R = q at *
  obtain ⟨n, R1⟩ := q
  simp only at *
  generalize hq2 : rTake s n R1 = q2
  obtain ⟨t, R2⟩ := q2
  have HQ := Lib.hid hq2
  clear hq2
  simp only at *
  obtain ⟨R3, hR3⟩ : ∃ R3, (if R2.no = 0 then R2 else ⟨R.p, R2.no, R2.ea⟩) = R3 := ⟨_, rfl⟩
  rw [hR3]
  have HR3 := Lib.hid hR3
  clear hR3
  go_enter Tryz.func90, Tryz.ntmps90
  go_wp2_with fail
  refine HA.out.mono ?_
  rintro x w1 ⟨rfl, rfl⟩
  go_wp2_with fail
  refine HU.out.mono ?_
  rintro x w2 ⟨rfl, hN2⟩
  have HN2 := Lib.hid hN2
  clear hN2
  go_wp2_with fail
  refine (HTK.out _ _ n HN2.out.fr HN2.out.obj).mono ?_
  rintro x w3 ⟨rfl, hN3⟩
  have HN3 := Lib.hid (HN2.out.trans hN3)
  clear hN3
  rw [HQ.out] at HN3 ⊢
  simp only at HN3 ⊢
  go_wp2_with fail
  refine (rerr_any HN3.out.obj).mono ?_
  rintro x w4 ⟨e, rfl, he, rfl⟩
  by_cases h0 : R2.no = 0
  · have e3 : R2 = R3 := (if_pos h0).symm.trans HR3.out
    rw [e3] at HN3
    unfold ErrOf at he
    rw [if_pos h0] at he
    subst he
    clear e3
    go_wp2
    go_ret
    exact ⟨rfl, HN3.out⟩
  · have e3 : (⟨R.p, R2.no, R2.ea⟩ : RV) = R3 := (if_neg h0).symm.trans HR3.out
    obtain ⟨t4, u4, rfl⟩ := err_iface he h0
    have hM := HN3.out.trans (HN3.out.obj.moved HLE.out)
    rw [e3] at hM
    have HM := Lib.hid hM
    obtain ⟨e5, hb5, _⟩ := HN3.out.obj.blk
    have y0 : w3.cell? ⟨g, 1, none⟩ = some (.int .i64 R2.p) := hb5.cell 1
    have y1 : w3.frozen? ⟨g, 1, none⟩ = false := hb5.frozen 1
    clear he h0 hb5 e3 hM
    go_wp2
    go_ret
    exact ⟨rfl, HM.out⟩
end
end Go.Proofs.YtfojoeafhdiaiaaGreatDoor
