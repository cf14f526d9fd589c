/- What is proved here: what the statements of layer 4 hold awake. Condition: what the rows list of the package's variables. -/
import Derived.Test.YtfojoeafhdiaiaaDoorRtx04
namespace Go.Proofs.YtfojoeafhdiaiaaDoor
set_option maxRecDepth 100000
open Go.RowKit Go.Extern.Stop Go.Stop Go.Extern
theorem aw_check : checkOf ⟨#[97]⟩ = (0, 0) := by
  have e : (⟨#[97]⟩ : ByteArray) = rep 1 := rfl
  rw [e]
  exact check_ok (by decide) (by rw [rep_cut, rep_size])
theorem aw_w1 : stepW w0 (numE 2 258) = ⟨0, 0, [1, 2]⟩ := by rfl
theorem aw_w2 : stepW ⟨0, 0, [1, 2]⟩ (textE ⟨#[97]⟩) = ⟨0, 0, [1, 2, 0, 1, 97]⟩ := by
  unfold textE
  rw [aw_check]
  rfl
def awS : ByteArray := ⟨#[1, 2, 0, 1, 97, 120]⟩
theorem aw_r1 : rNum awS 2 ⟨0, 0, 0⟩ = (258, ⟨2, 0, 0⟩) := rNum_ok (pre := []) (k := 2) (n := 258) (post := [0, 1, 97, 120]) (by decide) (by rfl) 0
theorem aw_r2 : rText awS ⟨2, 0, 0⟩ = (⟨#[97]⟩, ⟨5, 0, 0⟩) := rText_ok (pre := [1, 2]) (x := ⟨#[97]⟩) (post := [120]) (by rw [aw_check]) (by rfl) 0
theorem aw_r3 : rNum awS 4 ⟨5, 0, 0⟩ = (0, ⟨5, 1, 6⟩) := rNum_short (pre := [1, 2, 0, 1, 97]) (x := [120]) (by rfl) (by decide) 0
theorem env_cl {w W : World} {S : Nat → Addr} {g : Nat} (hE : Env w S) (hb : Below w.heap.size w W) (hg : w.heap.size ≤ g) : ∀ w1, Fr [g] W w1 → Env w1 S :=
  fun _ hf => hE.later (hf.later hb (fun b hx => by rw [List.mem_singleton] at hx; omega) hb.size)
section
variable {w w' : World} {S : Nat → Addr}
set_option maxHeartbeats 1000000 in
theorem awake04 (hE : Env w S) : Calls Tryd.prog 10 #[] w fun x w' => x = .returned (.bool true) ∧ Below w.heap.size w w' := by
  have HE := Lib.hid hE
  have hm := WObj.made w S (Nat.le_refl w.heap.size)
  have hb0 : Below w.heap.size w (w.alloc (.cells #[.slice none 0 0, .nilIface] 30)) := (Below.refl _ _).alloc (Nat.le_refl _) _
  have h1 := wu16_any (hE.later hb0) hm (by decide) 258
  rw [aw_w1] at h1
  have H1 := Lib.hid h1
  have HM := Lib.hid hm
  have HB0 := Lib.hid hb0
  clear h1 hm hb0 hE
  go_enter Tryd.func10, Tryd.ntmps10
  go_wp2_with fail
  refine H1.out.mono ?_
  rintro x w1 ⟨rfl, v1, hN1⟩
  have HB1 := Lib.hid (hN1.later HM.out HB0.out)
  have h2 := wtext_any (HE.out.later HB1.out) hN1.obj (by decide) ⟨#[97]⟩ (by decide)
  rw [aw_w2] at h2
  have H2 := Lib.hid h2
  have HN1 := Lib.hid hN1
  clear h2 hN1 H1
  go_wp2_with fail
  refine H2.out.mono ?_
  rintro x w2 ⟨rfl, v2, hN2⟩
  have HB2 := Lib.hid (hN2.later HN1.out.obj HB1.out)
  have h3 := wbytes_any hN2.obj
  have H3 := Lib.hid h3
  clear h3 hN2 H2
  go_wp2_with fail
  refine H3.out.mono ?_
  rintro x w3 ⟨e3, rfl, he3, hb3⟩
  obtain rfl : e3 = .nilIface := he3
  have HB3 := Lib.hid (HB2.out.trans (hb3.mono HB2.out.size))
  clear hb3 H3 HN1
  go_wp2_with fail
  have hcat : (⟨#[1, 2, 0, 1, 97]⟩ : ByteArray) ++ ⟨#[120]⟩ = awS := rfl
  rw [hcat]
  refine (rnew_any awS w3).mono ?_
  rintro x w4 ⟨rfl, rfl⟩
  have hr := RObj.made w3 S awS
  have HB4 := Lib.hid (HB3.out.alloc HB3.out.size (.cells #[.string awS, .int .i64 0, .nilIface] 101))
  have HG := Lib.hid HB3.out.size
  have hz : awS.size ≤ 900000 := by decide
  have HZ := Lib.hid hz
  have h5 := ru16_any (HE.out.later HB4.out) hr (by have := HZ.out; omega)
  rw [aw_r1] at h5
  have H5 := Lib.hid h5
  clear h5 hr hz
  generalize w3.heap.size = gr at *
  generalize w3.alloc (.cells #[.string awS, .int .i64 0, .nilIface] 101) = w5 at *
  clear HB3
  go_wp2_with fail
  refine H5.out.mono ?_
  rintro x w6 ⟨rfl, hN6⟩
  have HB6 := Lib.hid (hN6.later HG.out HB4.out.size HB4.out)
  have h7 := rdtext_any (env_cl HE.out HB6.out HG.out) hN6.obj HZ.out
  rw [aw_r2] at h7
  have H7 := Lib.hid h7
  clear h7 hN6 H5
  go_wp2_with fail
  refine H7.out.mono ?_
  rintro x w7 ⟨rfl, hN7⟩
  have HB7 := Lib.hid (hN7.later HG.out HB6.out.size HB6.out)
  have h8 := rdone_left (HE.out.later HB7.out) hN7.obj rfl (by have := HZ.out; omega) (by decide)
  have H8 := Lib.hid h8
  have HO7 := Lib.hid hN7.obj
  clear h8 hN7 H7
  go_wp2_with fail
  refine H8.out.mono ?_
  rintro x w8 ⟨e8, rfl, he8, hb8⟩
  have HB8 := Lib.hid (HB7.out.trans (hb8.mono HB7.out.size))
  have HO8 := Lib.hid (HO7.out.below hb8)
  have HX8 := Lib.hid he8
  have h9 := ru32_any (HE.out.later HB8.out) HO8.out (by have := HZ.out; omega)
  rw [aw_r3] at h9
  have H9 := Lib.hid h9
  clear h9 hb8 he8 H8 HO7
  go_wp2_with fail
  refine H9.out.mono ?_
  rintro x w9 ⟨rfl, hN9⟩
  have HB9 := Lib.hid (hN9.later HG.out HB8.out.size HB8.out)
  have HX9 := Lib.hid (err_fr HX8.out hN9.fr HO8.out.nof)
  have HO9 := Lib.hid hN9.obj
  clear hN9 H9 HX8 HO8
  go_wp2_with fail
  refine (number_of (HE.out.later HB9.out) HX9.out).mono ?_
  rintro x w10 ⟨rfl, hb10⟩
  have HB10 := Lib.hid (HB9.out.trans (hb10.mono HB9.out.size))
  have HX10 := Lib.hid (HX9.out.later hb10)
  have HO10 := Lib.hid (HO9.out.below hb10)
  clear hb10 HX9 HO9
  go_wp2_with fail
  refine (at_err (HE.out.later HB10.out) (HX10.out.is (by decide))).mono ?_
  rintro x w11 ⟨rfl, hb11⟩
  have HB11 := Lib.hid (HB10.out.trans (hb11.mono HB10.out.size))
  have HO11 := Lib.hid (HO10.out.below hb11)
  clear hb11 HX10 HO10
  go_wp2_with fail
  refine (rerr_any HO11.out).mono ?_
  rintro x w12 ⟨e12, rfl, he12, rfl⟩
  have HX12 := Lib.hid he12
  clear he12
  go_wp2_with fail
  refine (number_of (HE.out.later HB11.out) HX12.out).mono ?_
  rintro x w13 ⟨rfl, hb13⟩
  have HB13 := Lib.hid (HB11.out.trans (hb13.mono HB11.out.size))
  clear hb13
  go_wp2_with fail
  go_ret
  exact ⟨rfl, HB13.out⟩
end
end Go.Proofs.YtfojoeafhdiaiaaDoor
