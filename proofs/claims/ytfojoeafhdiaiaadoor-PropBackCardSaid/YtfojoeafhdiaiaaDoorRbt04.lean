/- What is proved here: what a Reader of package field reads: bytes and texts with their length ahead; whether it is done; a new one. Conditions: the reader is there; what the rows list of the package's variables stays, while the reader changes. -/
import Derived.Test.YtfojoeafhdiaiaaDoorRrw04
namespace Go.Proofs.YtfojoeafhdiaiaaDoor
set_option maxRecDepth 100000
open Go.RowKit Go.Extern.Stop Go.Stop Go.Extern
section
variable {w w' : World} {S : Nat → Addr} {B g : Nat} {s : ByteArray} {R : RV}
theorem rnew_any (s : ByteArray) (w : World) : Calls Tryd.prog 17 #[.string s] w fun x w' => x = .returned (.pointer (some ⟨w.heap.size, 0, none⟩)) ∧ w' = w.alloc (.cells #[.string s, .int .i64 0, .nilIface] 101) := by
  go_enter Tryd.func17, Tryd.ntmps17
  go_wp2_with fail
  go_ret
  exact ⟨rfl, rfl⟩
theorem rdone_err (h : RObj w S g s R) (h0 : R.no ≠ 0) : Calls Tryd.prog 19 #[.pointer (some ⟨g, 0, none⟩)] w fun x w' => ∃ e, x = .returned e ∧ ErrOf w' S 129 R.no R.ea e ∧ Below w.heap.size w w' := by
  have HR := Lib.hid (rerr_any h)
  clear h
  go_enter Tryd.func19, Tryd.ntmps19
  go_wp2_with fail
  refine HR.out.mono ?_
  rintro x w1 ⟨e, rfl, he, rfl⟩
  obtain ⟨t, u, rfl⟩ := err_iface he h0
  have HE := Lib.hid he
  clear he h0
  go_wp2
  go_ret
  exact ⟨_, rfl, HE.out, Below.refl _ _⟩
theorem rdone_end (h : RObj w S g s R) (h0 : R.no = 0) (hs : s.size ≤ 1000000) (hp : R.p = s.size) : Calls Tryd.prog 19 #[.pointer (some ⟨g, 0, none⟩)] w fun x w' => x = .returned .nilIface ∧ Below w.heap.size w w' := by
  have HR := Lib.hid (rerr_any h)
  have HL := Lib.hid (rleft_any h hs)
  have e0 : s.size - R.p = 0 := by omega
  rw [e0] at HL
  clear h e0 hp
  go_enter Tryd.func19, Tryd.ntmps19
  go_wp2_with fail
  refine HR.out.mono ?_
  rintro x w1 ⟨e, rfl, he, rfl⟩
  unfold ErrOf at he
  rw [if_pos h0] at he
  subst he
  go_wp2_with fail
  refine HL.out.mono ?_
  rintro x w2 ⟨rfl, hb⟩
  go_wp2
  go_ret
  exact ⟨rfl, hb⟩
theorem rdone_left (hE : Env w S) (h : RObj w S g s R) (h0 : R.no = 0) (hs : s.size ≤ 1000000) (hp : R.p < s.size) : Calls Tryd.prog 19 #[.pointer (some ⟨g, 0, none⟩)] w fun x w' => ∃ e, x = .returned e ∧ ErrOf w' S 129 2 R.p e ∧ Below w.heap.size w w' := by
  have HR := Lib.hid (rerr_any h)
  have HL := Lib.hid (rleft_any h hs)
  obtain ⟨m, hm⟩ : ∃ m, s.size - R.p = m + 1 := ⟨s.size - R.p - 1, by omega⟩
  rw [hm] at HL
  have H := Lib.hid h
  have HW := Lib.hid hE
  clear h hm hp hE
  go_enter Tryd.func19, Tryd.ntmps19
  go_wp2_with fail
  refine HR.out.mono ?_
  rintro x w1 ⟨e, rfl, he, rfl⟩
  unfold ErrOf at he
  rw [if_pos h0] at he
  subst he
  go_wp2_with fail
  refine HL.out.mono ?_
  rintro x w2 ⟨rfl, hb⟩
  have hi0 : TIn w w2 S g s R := ⟨H.out.below hb, HW.out.later hb, hb⟩
  have KT := Lib.hid (fun (W1 : World) (h : TIn w W1 S g s R) => h.env.kMalformed)
  have D29 := Lib.hid (fun (W1 : World) (h : TIn w W1 S g s R) => (rat_any h.obj).mono fun x w' hx => show x = Ending.returned (.int .i64 R.p) ∧ TIn w w' S g s R from ⟨hx.1, hx.2 ▸ h⟩)
  have D68 := Lib.hid (fun (W1 : World) (h : TIn w W1 S g s R) => (fwrong_any S 1 R.p W1).mono fun x w' hx => show ∃ e, x = Ending.returned e ∧ ErrOf w' S 129 2 R.p e ∧ TIn w w' S g s R from ⟨hx.choose, hx.choose_spec.1, ErrOf.some (by omega) (by omega) hx.choose_spec.2.1, h.below hx.choose_spec.2.2⟩)
  have t0 := KT.out _ hi0
  clear H HW hb
  go_wp2_with fail
  go_region_held3 (fun W => W.cell? ⟨1, 0, none⟩ = some (.iface 177 (.pointer (some (S 1)))))
    (first | assumption | (exact KT.out _ (by assumption)) | (exact KT.out _ (TIn.drewN (by assumption) 1)))
    (first
    | (go_at_call 29; (with_reducible refine (D29.out _ ?_).mono ?_); (first | assumption | exact TIn.drewN (by assumption) 1); rintro x w6 ⟨rfl, hi6⟩)
    | (go_at_call 68; (with_reducible refine (D68.out _ ?_).mono ?_); (first | assumption | exact TIn.drewN (by assumption) 1); rintro x w7 ⟨e7, rfl, he7, hi7⟩))
  have HX := Lib.hid he7
  have HI := Lib.hid hi7.bel
  clear he7 hi7 t0
  go_wp2_with fail
  go_ret
  exact ⟨_, rfl, HX.out, HI.out⟩
theorem rbin_any (hE : ∀ w1, Fr [g] w w1 → Env w1 S) (h : RObj w S g s R) (hs : s.size ≤ 900000) :
    Calls Tryd.prog 65 #[.pointer (some ⟨g, 0, none⟩)] w (TSays w S g s (.string (rBin s R).1) (rBin s R).2) := by
  have HA := Lib.hid (rat_any h)
  have HU := Lib.hid (ru16_any (hE w (Fr.refl _ _)) h (by omega))
  have HW := Lib.hid hE
  have HTK := Lib.hid (fun (W1 : World) (R1 : RV) (n : Nat) (hf : Fr [g] w W1) (h : RObj W1 S g s R1) => rtake_any (hE W1 hf) h (by omega) n)
  have hle := h.le
  have HLE := Lib.hid hle
  clear h hE hle
  unfold rBin
  generalize rNum s 2 R = q at *
  obtain ⟨n, R1⟩ := q
  simp only at *
  generalize hq2 : rTake s n R1 = q2
  obtain ⟨t, R2⟩ := q2
  have HQ := Lib.hid hq2
  clear hq2
  simp only at *
  obtain ⟨R3, hR3⟩ : ∃ R3, (if R2.no = 0 then R2 else ⟨R.p, R2.no, R2.ea⟩) = R3 := ⟨_, rfl⟩
  rw [hR3]
  have HR3 := Lib.hid hR3
  clear hR3
  go_enter Tryd.func65, Tryd.ntmps65
  go_wp2_with fail
  refine HA.out.mono ?_
  rintro x w1 ⟨rfl, rfl⟩
  go_wp2_with fail
  refine HU.out.mono ?_
  rintro x w2 ⟨rfl, hN2⟩
  have HN2 := Lib.hid hN2
  clear hN2
  go_wp2_with fail
  refine (HTK.out _ _ n HN2.out.fr HN2.out.obj).mono ?_
  rintro x w3 ⟨rfl, hN3⟩
  have HN3 := Lib.hid (HN2.out.trans hN3)
  clear hN3
  rw [HQ.out] at HN3 ⊢
  simp only at HN3 ⊢
  go_wp2_with fail
  refine (rerr_any HN3.out.obj).mono ?_
  rintro x w4 ⟨e, rfl, he, rfl⟩
  by_cases h0 : R2.no = 0
  · have e3 : R2 = R3 := (if_pos h0).symm.trans HR3.out
    rw [e3] at HN3
    unfold ErrOf at he
    rw [if_pos h0] at he
    subst he
    clear e3
    go_wp2
    go_ret
    exact ⟨rfl, HN3.out⟩
  · have e3 : (⟨R.p, R2.no, R2.ea⟩ : RV) = R3 := (if_neg h0).symm.trans HR3.out
    obtain ⟨t4, u4, rfl⟩ := err_iface he h0
    have hM := HN3.out.trans (HN3.out.obj.moved HLE.out)
    rw [e3] at hM
    have HM := Lib.hid hM
    obtain ⟨e5, hb5, _⟩ := HN3.out.obj.blk
    have y0 : w3.cell? ⟨g, 1, none⟩ = some (.int .i64 R2.p) := hb5.cell 1
    have y1 : w3.frozen? ⟨g, 1, none⟩ = false := hb5.frozen 1
    clear he h0 hb5 e3 hM
    go_wp2
    go_ret
    exact ⟨rfl, HM.out⟩
end
end Go.Proofs.YtfojoeafhdiaiaaDoor
