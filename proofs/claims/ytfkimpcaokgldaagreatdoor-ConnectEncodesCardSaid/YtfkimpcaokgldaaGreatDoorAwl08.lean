/- What is proved here: Encode of package connect tells what a plain function says. Conditions: few bytes, the packet's parts stand where it says; what the rows list of the package's variables. What is proved here: Encode of package connect tells what a plain function says, where there is no will. Conditions: few bytes, the packet's parts stand where it says; what the rows list of the package's variables. What is proved here: Encode of package connect tells what a plain function says. Conditions: few bytes, the packet's parts stand where it says; what the rows list of the package's variables. What is proved here: whether a packet has few parts, of few bytes. Condition: its lists stand where it says. What is proved here: an error and the document's, that are the same, are the same to layer 08's statements. Condition: what the rows list of the package's variables. What is proved here: what the statements of layer 8 hold awake. Condition: what the rows list of the package's variables. -/
import Derived.Test.YtfkimpcaokgldaaGreatDoorDec08
import Derived.Test.YtfkimpcaokgldaaGreatDoorFra08
import Derived.Test.YtfkimpcaokgldaaGreatDoorBrr08
import Derived.Test.YtfkimpcaokgldaaGreatDoorPkx08
import Derived.Test.YtfkimpcaokgldaaGreatDoorLawA06
import Derived.Test.YtfkimpcaokgldaaGreatDoorRegT
import Derived.Deep.QuietTactic
import Derived.BigQuiet
import Derived.Deep.RegionHeld3
import Derived.Test.YtfkimpcaokgldaaGreatDoorEnv
namespace Go.Proofs.YtfkimpcaokgldaaGreatDoor
set_option maxRecDepth 100000
open Go.ChangeShapes Go.WideShapes Go.RowKit Go.Deep Go.Extern.Stop Go.Stop Go.Extern
def SmK (p : Pk) : Prop := SmallP p.props ∧ SmallP p.wProps ∧ p.client.size ≤ 65535 ∧ p.wTopic.size ≤ 65535 ∧ p.wPay.size ≤ 65535 ∧ p.user.size ≤ 65535 ∧ p.pass.size ≤ 65535
theorem enK_backS {p : Pk} (h : SmK p) (hno : (enK p).e.no = 0) : dcK (enK p).first (enK p).s = (e00, bareK p) :=
  enK_back (small_mem h.1).1 (small_mem h.1).2 (small_mem h.2.1).1 (small_mem h.2.1).2 (by have := h.2.2.2.2.1; omega) (by have := h.2.2.2.2.2.2; omega) hno
theorem enK_lenS {p : Pk} (h : SmK p) : (enK p).s.size ≤ 462000 := enK_len h.1 h.2.1 h.2.2.1 h.2.2.2.1 h.2.2.2.2.1 h.2.2.2.2.2.1 h.2.2.2.2.2.2
theorem bareK_ok {p : Pk} (h : SmK p) : SmOk (bareK p) := ⟨rfl, by show (plL p.props).length ≤ 1000; rw [plL_len]; exact small_few h.1, by
  show (if p.wHas = true then plL p.wProps else []).length ≤ 1000
  split
  · rw [plL_len]; exact small_few h.2.1
  · exact Nat.zero_le _, Nat.zero_le _, Nat.zero_le _⟩
theorem deK_backS {first : Int} {s : ByteArray} (hss : s.size ≤ 2048) (h : (dcK first s).1.no = 0) : SmK (dcK first s).2 ∧ (enK (dcK first s).2).e.no = 0 ∧ dcK (enK (dcK first s).2).first (enK (dcK first s).2).s = (e00, (dcK first s).2) ∧ SmOk (dcK first s).2 := by
  obtain ⟨⟨h1, h2, h3, h4, h5, h6, h7⟩, h8, h9⟩ := deK_back hss h
  obtain ⟨l1, l2, l3⟩ := dcK_lists first s
  exact ⟨⟨h1, h2, by omega, by omega, by omega, by omega, by omega⟩, h8, h9, l1, small_few h1, small_few h2, by rw [l2]; exact Nat.zero_le _, by rw [l3]; exact Nat.zero_le _⟩
/-- What the encoder holds. -/
structure EnJ (w W : World) (S : Nat → Addr) (c : Array Value) (gW : Nat) (v : Value) (V : EV) : Prop where
  bel : Below w.heap.size w W
  r0 : Blk W w.heap.size 29 c
  r1 : Blk W (w.heap.size + 1) 33 #[.int .i64 0, .string ⟨#[]⟩]
  wo : WObj W S w.heap.size gW v V
section
variable {w W W' : World} {S : Nat → Addr} {c : Array Value} {gW : Nat} {v v' : Value} {V V' : EV}
theorem EnJ.below (h : EnJ w W S c gW v V) (hb : Below W.heap.size W W') : EnJ w W' S c gW v V := ⟨h.bel.trans (hb.mono h.bel.size), h.r0.below hb h.r0.lt, h.r1.below hb h.r1.lt, h.wo.below hb⟩
theorem EnJ.step (h : EnJ w W S c gW v V) (hn : WNext W W' S w.heap.size gW v v' V') : EnJ w W' S c gW v' V' := ⟨hn.later h.wo h.bel, hn.blk h.wo h.r0 (by decide) (by decide), hn.blk h.wo h.r1 (by decide) (by decide), hn.obj⟩
theorem EnJ.get (h : EnJ w W S c gW v V) {i : Nat} {u : Value} (hu : c[i]? = some u) : W.cell? ⟨w.heap.size, i, none⟩ = some u := (h.r0.cell i).trans hu
end
section
variable {w w' : World} {S : Nat → Addr} {A : PkA} {p : Pk} {s : ByteArray}
set_option maxHeartbeats 32000000 in
theorem enc08_bad (hE : Env w S) (_h : PkIn w w.heap.size A p) (_hS : SmK p) (hw : p.wHas = true) (hqq : p.wQos < 0 ∨ 3 < p.wQos) : Calls Tryz.prog 7 #[p.agg A] w (FrSays w S (enK p)) := by
  obtain ⟨q, hq⟩ : ∃ q, q = enK p := ⟨_, rfl⟩
  rw [← hq]
  unfold enK at hq
  have hfl := fun W (hh : p.wHas = true → 0 ≤ p.wQos ∧ p.wQos ≤ 3) => flg08 A p hh W
  obtain ⟨c, hc⟩ : ∃ c, c = p.cells A := ⟨_, rfl⟩
  rw [show p.agg A = .agg c from by rw [hc]; rfl] at hfl ⊢
  have HCS := Lib.hid (show c.size = 26 by rw [hc]; rfl)
  have HC3 := Lib.hid (show c[3]? = some (.slice A.pa p.props.length A.pc) by rw [hc]; rfl)
  have HC5 := Lib.hid (show c[5]? = some (.int .i64 p.keep) by rw [hc]; rfl)
  have HC6 := Lib.hid (show c[6]? = some (.string p.client) by rw [hc]; rfl)
  have HC7 := Lib.hid (show c[7]? = some (.bool p.wHas) by rw [hc]; rfl)
  have HC8 := Lib.hid (show c[8]? = some (.string p.wTopic) by rw [hc]; rfl)
  have HC9 := Lib.hid (show c[9]? = some (.string p.wPay) by rw [hc]; rfl)
  have HC10 := Lib.hid (show c[10]? = some (.int .i64 p.wQos) by rw [hc]; rfl)
  have HC12 := Lib.hid (show c[12]? = some (.slice A.wa p.wProps.length A.wc) by rw [hc]; rfl)
  have HC13 := Lib.hid (show c[13]? = some (.bool p.hasUser) by rw [hc]; rfl)
  have HC14 := Lib.hid (show c[14]? = some (.string p.user) by rw [hc]; rfl)
  have HC15 := Lib.hid (show c[15]? = some (.bool p.hasPass) by rw [hc]; rfl)
  have HC16 := Lib.hid (show c[16]? = some (.string p.pass) by rw [hc]; rfl)
  obtain ⟨W2, hW2⟩ : ∃ W, W = (w.alloc (.cells c 29)).alloc (.cells #[.int .i64 0, .string ⟨#[]⟩] 33) := ⟨_, rfl⟩
  have a1 : Below w.heap.size w (w.alloc (.cells c 29)) := (Below.refl _ _).alloc (Nat.le_refl _) _
  have hb2 : Below w.heap.size w W2 := by rw [hW2]; exact a1.trans (((Below.refl (w.alloc (.cells c 29)).heap.size _).alloc (Nat.le_refl _) (.cells #[.int .i64 0, .string ⟨#[]⟩] 33)).mono a1.size)
  have r0 : Blk W2 w.heap.size 29 c := by
    rw [hW2]; exact (Blk.made w 29 c).alloc (.cells #[.int .i64 0, .string ⟨#[]⟩] 33)
  have r1 : Blk W2 (w.heap.size + 1) 33 #[.int .i64 0, .string ⟨#[]⟩] := by
    have h := Blk.made (w.alloc (.cells c 29)) 33 #[.int .i64 0, .string ⟨#[]⟩]
    rw [World.size_alloc] at h
    rw [hW2]; exact h
  have k7 : W2.cell? ⟨w.heap.size, 7, none⟩ = some (.bool p.wHas) := (r0.cell 7).trans HC7.out
  have k10 : W2.cell? ⟨w.heap.size, 10, none⟩ = some (.int .i64 p.wQos) := (r0.cell 10).trans HC10.out
  have k3 : W2.cell? ⟨w.heap.size, 3, none⟩ = some (.slice A.pa p.props.length A.pc) := (r0.cell 3).trans HC3.out
  have HMF := Lib.hid (mal08 (hE.later hb2) 0)
  rw [if_pos ⟨hw, hqq⟩] at hq
  have HQ2 := Lib.hid hq
  have HW2 := Lib.hid hW2
  have HB2 := Lib.hid hb2
  have R1 := Lib.hid r1
  rw [hW2] at k7 k10
  rw [hw] at k7
  clear hq hc a1 hb2 r0 r1 hE _h _hS hW2 hfl k3 hw HC3 HC5 HC6 HC7 HC8 HC9 HC10 HC12 HC13 HC14 HC15 HC16
  generalize p.wQos = qs at *
  rcases hqq with h1 | h1
  case' inl =>
    go_enter Tryz.func7, Tryz.ntmps7
    go_wp2_with (refine wpk_box HCS.out _ rfl rfl rfl ?_)
  case' inr =>
    have h2 : ¬ qs < 0 := by omega
    go_enter Tryz.func7, Tryz.ntmps7
    go_wp2_with (refine wpk_box HCS.out _ rfl rfl rfl ?_)
  all_goals
    rw [← HW2.out]
    refine HMF.out.mono ?_
    rintro x w3 ⟨e, rfl, he, hb3⟩
    obtain ⟨te, ue, rfl⟩ := err_iface he (by decide)
    have r13 := R1.out.below hb3 R1.out.lt
    have hb := HB2.out.trans (hb3.mono HB2.out.size)
    clear k7 k10
    obtain ⟨⟨z0, z1, y0, y1⟩, ⟨z2, y2⟩, ⟨f0, f1⟩, ferr⟩ := fr_facts (S := S) r13 (.int .i64 0) (.string ⟨#[]⟩)
    have hbf := (hb.setCell (p := ⟨w.heap.size + 1, 0, none⟩) (by show w.heap.size ≤ w.heap.size + 1; omega) (.int .i64 0)).setCell (p := ⟨w.heap.size + 1, 1, none⟩) (by show w.heap.size ≤ w.heap.size + 1; omega) (.string ⟨#[]⟩)
    have HX := Lib.hid (show FrSays w S q (.returned (.tuple #[.agg #[.int .i64 0, .string ⟨#[]⟩], .iface te ue])) _ from by
      rw [HQ2.out]
      exact ⟨_, rfl, ferr _ _ _ _ he, hbf⟩)
    clear ferr hbf he
    go_wp2
    exact bodyPost_ret (v := .tuple #[.agg #[.int .i64 0, .string ⟨#[]⟩], .iface te ue]) (by simp [results, Tryz.results7, go_sem, f0, f1]) rfl HX.out
end
end Go.Proofs.YtfkimpcaokgldaaGreatDoor
namespace Go.Proofs.YtfkimpcaokgldaaGreatDoor
set_option maxRecDepth 100000
open Go.ChangeShapes Go.WideShapes Go.RowKit Go.Deep Go.Extern.Stop Go.Stop Go.Extern
section
variable {w w' : World} {S : Nat → Addr} {A : PkA} {p : Pk} {s : ByteArray}
set_option maxHeartbeats 32000000 in
theorem enc08_no (hE : Env w S) (h : PkIn w w.heap.size A p) (hS : SmK p) (hw : p.wHas = false) : Calls Tryz.prog 7 #[p.agg A] w (FrSays w S (enK p)) := by
  obtain ⟨q, hq⟩ : ∃ q, q = enK p := ⟨_, rfl⟩
  rw [← hq]
  unfold enK at hq
  have hfl := fun W (hh : p.wHas = true → 0 ≤ p.wQos ∧ p.wQos ≤ 3) => flg08 A p hh W
  obtain ⟨c, hc⟩ : ∃ c, c = p.cells A := ⟨_, rfl⟩
  rw [show p.agg A = .agg c from by rw [hc]; rfl] at hfl ⊢
  have HCS := Lib.hid (show c.size = 26 by rw [hc]; rfl)
  have HC3 := Lib.hid (show c[3]? = some (.slice A.pa p.props.length A.pc) by rw [hc]; rfl)
  have HC5 := Lib.hid (show c[5]? = some (.int .i64 p.keep) by rw [hc]; rfl)
  have HC6 := Lib.hid (show c[6]? = some (.string p.client) by rw [hc]; rfl)
  have HC7 := Lib.hid (show c[7]? = some (.bool p.wHas) by rw [hc]; rfl)
  have HC8 := Lib.hid (show c[8]? = some (.string p.wTopic) by rw [hc]; rfl)
  have HC9 := Lib.hid (show c[9]? = some (.string p.wPay) by rw [hc]; rfl)
  have HC10 := Lib.hid (show c[10]? = some (.int .i64 p.wQos) by rw [hc]; rfl)
  have HC12 := Lib.hid (show c[12]? = some (.slice A.wa p.wProps.length A.wc) by rw [hc]; rfl)
  have HC13 := Lib.hid (show c[13]? = some (.bool p.hasUser) by rw [hc]; rfl)
  have HC14 := Lib.hid (show c[14]? = some (.string p.user) by rw [hc]; rfl)
  have HC15 := Lib.hid (show c[15]? = some (.bool p.hasPass) by rw [hc]; rfl)
  have HC16 := Lib.hid (show c[16]? = some (.string p.pass) by rw [hc]; rfl)
  obtain ⟨W2, hW2⟩ : ∃ W, W = (w.alloc (.cells c 29)).alloc (.cells #[.int .i64 0, .string ⟨#[]⟩] 33) := ⟨_, rfl⟩
  have a1 : Below w.heap.size w (w.alloc (.cells c 29)) := (Below.refl _ _).alloc (Nat.le_refl _) _
  have hb2 : Below w.heap.size w W2 := by rw [hW2]; exact a1.trans (((Below.refl (w.alloc (.cells c 29)).heap.size _).alloc (Nat.le_refl _) (.cells #[.int .i64 0, .string ⟨#[]⟩] 33)).mono a1.size)
  have r0 : Blk W2 w.heap.size 29 c := by
    rw [hW2]; exact (Blk.made w 29 c).alloc (.cells #[.int .i64 0, .string ⟨#[]⟩] 33)
  have r1 : Blk W2 (w.heap.size + 1) 33 #[.int .i64 0, .string ⟨#[]⟩] := by
    have h := Blk.made (w.alloc (.cells c 29)) 33 #[.int .i64 0, .string ⟨#[]⟩]
    rw [World.size_alloc] at h
    rw [hW2]; exact h
  have k7 : W2.cell? ⟨w.heap.size, 7, none⟩ = some (.bool p.wHas) := (r0.cell 7).trans HC7.out
  have k10 : W2.cell? ⟨w.heap.size, 10, none⟩ = some (.int .i64 p.wQos) := (r0.cell 10).trans HC10.out
  have k3 : W2.cell? ⟨w.heap.size, 3, none⟩ = some (.slice A.pa p.props.length A.pc) := (r0.cell 3).trans HC3.out
  rw [if_neg (fun hh => by rw [hw] at hh; exact absurd hh.1 (by decide))] at hq
  have HFL := Lib.hid (fun W => hfl W fun hh => by rw [hw] at hh; exact absurd hh (by decide))
  have hln := wrK_len hS.1 hS.2.1 hS.2.2.1 hS.2.2.2.1 hS.2.2.2.2.1 hS.2.2.2.2.2.1 hS.2.2.2.2.2.2
  have hec := encode_any (hE.later hb2) 1 p.props.length A.pc rfl ((h.pr.below hb2).mono hb2.size) hS.1 h.pc
  have hel := encR_len (k := 1) hS.1
  have HEW := Lib.hid (fun (W1 : World) (hb : Below w.heap.size w W1) => encode_any (hE.later hb) 16 p.wProps.length A.wc rfl ((h.wr.below hb).mono hb.size) hS.2.1 h.wc)
  have HELW := Lib.hid (encR_len (k := 16) hS.2.1)
  have hw1 : wrK1 p = stepW (stepW (stepW (stepW (stepW (stepW w0 (textE mqtt)) (numE 1 5)) (numE 1 (flK p : Nat))) (numE 2 p.keep)) ⟨0, 0, (encR 1 p.props).L⟩) (textE p.client) := rfl
  obtain ⟨⟨en, er, ea, eb⟩, hE2⟩ : ∃ E, E = encR 1 p.props := ⟨_, rfl⟩
  rw [← hE2] at hq hec hel hw1
  simp only at hec hel hq hw1
  obtain ⟨fl, hflk⟩ : ∃ f, f = flK p := ⟨_, rfl⟩
  have HFK := Lib.hid (show fl < 1000 by
    have := (fl_cases (p := p) (fun hh => by rw [hw] at hh; exact absurd hh.1 (by decide))).1
    omega)
  rw [← hflk] at HFL hw1
  have HEC := Lib.hid hec
  have HEL := Lib.hid hel
  have HQ := Lib.hid hq
  have HLN := Lib.hid hln
  have HSM := Lib.hid hS
  have HE := Lib.hid hE
  have HW1 := Lib.hid hw1
  have HW2 := Lib.hid hW2
  have HB2 := Lib.hid hb2
  have R0 := Lib.hid r0
  have R1 := Lib.hid r1
  have HWH := Lib.hid hw
  rw [hw] at k7 HC7
  clear hq hc a1 hb2 r0 r1 hE h hS hW2 hfl hln hec hel hE2 hflk hw1 hw HC3
  go_enter Tryz.func7, Tryz.ntmps7
  go_upto_region 1 with (refine wpk_box HCS.out _ rfl rfl rfl ?_)
  rw [← HW2.out]
  go_wp2_with fail
  refine HEC.out.mono ?_
  rintro x w3 ⟨e3, rfl, he3, hb3⟩
  simp only at he3 ⊢
  have R03 := Lib.hid (R0.out.below hb3 R0.out.lt)
  have R13 := Lib.hid (R1.out.below hb3 R1.out.lt)
  have HB3 := Lib.hid (HB2.out.trans (hb3.mono HB2.out.size))
  clear k3 k7 k10 HEC R0 R1 hb3 HB2 HW2
  by_cases h0 : en = 0
  rotate_left
  · have hq := HQ.out
    rw [if_neg h0] at hq
    obtain ⟨te, ue, rfl⟩ := err_iface he3 h0
    obtain ⟨⟨z0, z1, y0, y1⟩, ⟨z2, y2⟩, ⟨f0, f1⟩, ferr⟩ := fr_facts (S := S) R13.out (.int .i64 0) (.string ⟨#[]⟩)
    have hbf := (HB3.out.setCell (p := ⟨w.heap.size + 1, 0, none⟩) (by show w.heap.size ≤ w.heap.size + 1; omega) (.int .i64 0)).setCell (p := ⟨w.heap.size + 1, 1, none⟩) (by show w.heap.size ≤ w.heap.size + 1; omega) (.string ⟨#[]⟩)
    have HX := Lib.hid (show FrSays w S q (.returned (.tuple #[.agg #[.int .i64 0, .string ⟨#[]⟩], .iface te ue])) _ from by
      rw [hq]
      exact ⟨_, rfl, ferr _ _ _ _ he3, hbf⟩)
    clear ferr hbf he3
    go_wp2
    exact bodyPost_ret (v := .tuple #[.agg #[.int .i64 0, .string ⟨#[]⟩], .iface te ue]) (by simp [results, Tryz.results7, go_sem, f0, f1]) rfl HX.out
  have hq := HQ.out
  rw [if_pos h0] at hq
  unfold ErrOf at he3
  rw [if_pos h0] at he3
  subst he3
  have HQ3 := Lib.hid hq
  obtain ⟨W4, hW4⟩ : ∃ W, W = w3.alloc (.cells #[.slice none 0 0, .nilIface] 64) := ⟨_, rfl⟩
  have b4 : Below w3.heap.size w3 W4 := by rw [hW4]; exact (Below.refl _ _).alloc (Nat.le_refl _) _
  have ho : WObj W4 S w.heap.size w3.heap.size (.slice none 0 0) w0 := by rw [hW4]; exact WObj.made w3 S HB3.out.size
  have hj4 : EnJ w W4 S c w3.heap.size (.slice none 0 0) w0 := ⟨HB3.out.trans (b4.mono HB3.out.size), R03.out.below b4 R03.out.lt, R13.out.below b4 R13.out.lt, ho⟩
  have HJ4 := Lib.hid hj4
  have HTX := Lib.hid (wtext_any (HE.out.later hj4.bel) hj4.wo (by decide) mqtt (by decide))
  have HW4 := Lib.hid hW4
  clear hq b4 ho hW4 hj4 HQ R03 R13 HB3
  go_wp2_with fail
  rw [← HW4.out]
  refine HTX.out.mono ?_
  rintro x w5 ⟨rfl, v5, hn5⟩
  obtain ⟨V5, hV5⟩ : ∃ V, V = stepW w0 (textE mqtt) := ⟨_, rfl⟩
  rw [← hV5] at hn5
  have hl5 : V5.L.length ≤ 10 := by rw [hV5]; decide +kernel
  have hj5 := HJ4.out.step hn5
  have HU := Lib.hid (wu8_any (HE.out.later hj5.bel) hj5.wo (by omega) 5)
  have HL5 := Lib.hid hl5
  have HV5 := Lib.hid hV5
  have HJ5 := Lib.hid hj5
  clear hn5 hV5 hl5 hj5 HTX HJ4 HW4
  go_wp2_with fail
  refine HU.out.mono ?_
  rintro x w6 ⟨rfl, v6, hn6⟩
  obtain ⟨V6, hV6⟩ : ∃ V, V = stepW V5 (numE 1 5) := ⟨_, rfl⟩
  rw [← hV6] at hn6
  have hl6 : V6.L.length ≤ 20 := by
    have h1 := stepW_len V5 (numE 1 5)
    have h2 := numE_len 1 5
    have h3 := HL5.out
    rw [hV6]
    omega
  have hj6 := HJ5.out.step hn6
  have HL6 := Lib.hid hl6
  have HV6 := Lib.hid hV6
  have HJ6 := Lib.hid hj6
  clear hn6 hV6 hl6 hj6 HU HJ5
  go_wp2_with (refine wpk_load HJ6.out.r0 HCS.out _ rfl rfl rfl ?_)
  refine (HFL.out w6).mono ?_
  rintro x w7 ⟨rfl, hb7⟩
  have hj7 := HJ6.out.below hb7
  have HU := Lib.hid (wu8_any (HE.out.later hj7.bel) hj7.wo (by have := HL6.out; omega) (fl : Nat))
  have HJ7 := Lib.hid hj7
  clear hb7 hj7 HJ6
  go_wp2_with fail
  refine HU.out.mono ?_
  rintro x w8 ⟨rfl, v8, hn8⟩
  obtain ⟨V8, hV8⟩ : ∃ V, V = stepW V6 (numE 1 (fl : Nat)) := ⟨_, rfl⟩
  rw [← hV8] at hn8
  have hl8 : V8.L.length ≤ 30 := by
    have h1 := stepW_len V6 (numE 1 (fl : Nat))
    have h2 := numE_len 1 (fl : Nat)
    have h3 := HL6.out
    rw [hV8]
    omega
  have hj8 := HJ7.out.step hn8
  have k5 := hj8.get HC5.out
  have HU2 := Lib.hid (wu16_any (HE.out.later hj8.bel) hj8.wo (by omega) p.keep)
  have HL8 := Lib.hid hl8
  have HV8 := Lib.hid hV8
  have HJ8 := Lib.hid hj8
  clear hn8 hV8 hl8 hj8 HU HJ7
  go_wp2_with fail
  refine HU2.out.mono ?_
  rintro x w9 ⟨rfl, v9, hn9⟩
  obtain ⟨V9, hV9⟩ : ∃ V, V = stepW V8 (numE 2 p.keep) := ⟨_, rfl⟩
  rw [← hV9] at hn9
  have hl9 : V9.L.length ≤ 40 := by
    have h1 := stepW_len V8 (numE 2 p.keep)
    have h2 := numE_len 2 p.keep
    have h3 := HL8.out
    rw [hV9]
    omega
  have hj9 := HJ8.out.step hn9
  have HRW := Lib.hid (wraw_any hj9.wo (by omega) ⟨eb.toArray⟩ (by rw [bsize]; have := HEL.out; omega))
  have HL9 := Lib.hid hl9
  have HV9 := Lib.hid hV9
  have HJ9 := Lib.hid hj9
  clear hn9 hV9 hl9 hj9 HU2 HJ8 k5
  go_wp2_with fail
  refine HRW.out.mono ?_
  rintro x wA ⟨rfl, vA, hnA⟩
  obtain ⟨VA, hVA⟩ : ∃ V, V = stepW V9 ⟨0, 0, eb⟩ := ⟨_, rfl⟩
  rw [← hVA] at hnA
  have hlA : VA.L.length ≤ 65600 := by
    have h1 := stepW_len V9 ⟨0, 0, eb⟩
    have h2 := HEL.out
    have h3 := HL9.out
    rw [hVA]
    simp only at h1
    omega
  have hjA := HJ9.out.step hnA
  have k6 := hjA.get HC6.out
  have HTX := Lib.hid (wtext_any (HE.out.later hjA.bel) hjA.wo (by omega) p.client HSM.out.2.2.1)
  have HVA := Lib.hid hVA
  have HJA := Lib.hid hjA
  clear hnA hVA hlA hjA HRW HJ9
  go_wp2_with fail
  refine HTX.out.mono ?_
  rintro x wB ⟨rfl, vB, hnB⟩
  obtain ⟨VB, hVB⟩ : ∃ V, V = stepW VA (textE p.client) := ⟨_, rfl⟩
  rw [← hVB] at hnB
  have hjB := HJA.out.step hnB
  have eVB : VB = wrK1 p := by rw [hVB, HVA.out, HV9.out, HV8.out, HV6.out, HV5.out, HW1.out]
  have k7 := hjB.get HC7.out
  have HEB := Lib.hid eVB
  have HJB := Lib.hid hjB
  clear hnB hVB hjB eVB HTX HJA k6 HV5 HV6 HV8 HV9 HVA HL5 HL6 HL8 HL9
  obtain ⟨wF, hwF⟩ : ∃ X, X = wB := ⟨_, rfl⟩
  obtain ⟨vF, hvF⟩ : ∃ X, X = vB := ⟨_, rfl⟩
  obtain ⟨VF, hVF⟩ : ∃ X, X = VB := ⟨_, rfl⟩
  have HEF := Lib.hid (show VF = wrK2 p (wrK1 p) by
    unfold wrK2
    rw [if_neg (by rw [HWH.out]; decide), hVF, HEB.out])
  have HJF := Lib.hid (show EnJ w wF S c w3.heap.size vF VF by rw [hwF, hvF, hVF]; exact HJB.out)
  have HQ5 := Lib.hid (show q = frR (wrK p) 16 (dcK 16 ⟨(wrK p).L.toArray⟩).1 by
    rw [HQ3.out, if_neg (fun hh => by rw [HWH.out] at hh; exact absurd hh.1 (by decide))])
  go_upto_region 20 with fail
  rw [← hwF]
  clear hwF hvF hVF HEB HJB k7 HQ3 HEW HELW
  have hlF : VF.L.length ≤ 330000 := by rw [HEF.out]; exact HLN.out.2.1
  have k13 := HJF.out.get HC13.out
  by_cases hu : p.hasUser = true
  case' pos =>
    rw [hu] at k13
    have k14 := HJF.out.get HC14.out
    have HTX := Lib.hid (wtext_any (HE.out.later HJF.out.bel) HJF.out.wo (by omega) p.user HSM.out.2.2.2.2.2.1)
    have HU := Lib.hid hu
    clear hu hlF
    go_wp2_with fail
    refine HTX.out.mono ?_
    rintro x wG ⟨rfl, vG, hnG⟩
    obtain ⟨VG, hVG⟩ : ∃ V, V = stepW VF (textE p.user) := ⟨_, rfl⟩
    rw [← hVG] at hnG
    have HEG := Lib.hid (show VG = wrK3 p (wrK2 p (wrK1 p)) by
      unfold wrK3
      rw [if_pos HU.out, hVG, HEF.out])
    have HJG := Lib.hid (HJF.out.step hnG)
    clear hnG hVG HTX HJF HEF k13 k14 HU
    go_upto_region 22 with fail
  case' neg =>
    have hu' : p.hasUser = false := by simpa using hu
    rw [hu'] at k13
    obtain ⟨wG, hwG⟩ : ∃ X, X = wF := ⟨_, rfl⟩
    obtain ⟨vG, hvG⟩ : ∃ X, X = vF := ⟨_, rfl⟩
    obtain ⟨VG, hVG⟩ : ∃ X, X = VF := ⟨_, rfl⟩
    have HEG := Lib.hid (show VG = wrK3 p (wrK2 p (wrK1 p)) by
      unfold wrK3
      rw [if_neg hu, hVG, HEF.out])
    have HJG := Lib.hid (show EnJ w wG S c w3.heap.size vG VG by rw [hwG, hvG, hVG]; exact HJF.out)
    have HWG := Lib.hid hwG
    clear hu hu' hlF hvG hVG hwG HJF HEF
    go_upto_region 22 with fail
    rw [← HWG.out]
    clear HWG k13
  all_goals
    have hlG : VG.L.length ≤ 396000 := by rw [HEG.out]; exact HLN.out.2.2.1
    have k15 := HJG.out.get HC15.out
    by_cases hu : p.hasPass = true
    case' pos =>
      rw [hu] at k15
      have k16 := HJG.out.get HC16.out
      have HTX := Lib.hid (wbin_any (HE.out.later HJG.out.bel) HJG.out.wo (by omega) p.pass HSM.out.2.2.2.2.2.2)
      have HU := Lib.hid hu
      clear hu hlG
      go_wp2_with fail
      refine HTX.out.mono ?_
      rintro x wH ⟨rfl, vH, hnH⟩
      obtain ⟨VH, hVH⟩ : ∃ V, V = stepW VG (binE p.pass) := ⟨_, rfl⟩
      rw [← hVH] at hnH
      have HEH := Lib.hid (show VH = wrK p by
        unfold wrK wrK4
        rw [if_pos HU.out, hVH, HEG.out])
      have HJH := Lib.hid (HJG.out.step hnH)
      clear hnH hVH HTX HJG HEG k15 k16 HU
      go_upto_region 24 with fail
    case' neg =>
      have hu' : p.hasPass = false := by simpa using hu
      rw [hu'] at k15
      obtain ⟨wH, hwH⟩ : ∃ X, X = wG := ⟨_, rfl⟩
      obtain ⟨vH, hvH⟩ : ∃ X, X = vG := ⟨_, rfl⟩
      obtain ⟨VH, hVH⟩ : ∃ X, X = VG := ⟨_, rfl⟩
      have HEH := Lib.hid (show VH = wrK p by
        unfold wrK wrK4
        rw [if_neg hu, hVH, HEG.out])
      have HJH := Lib.hid (show EnJ w wH S c w3.heap.size vH VH by rw [hwH, hvH, hVH]; exact HJG.out)
      have HWH2 := Lib.hid hwH
      clear hu hu' hlG hvH hVH hwH HJG HEG
      go_upto_region 24 with fail
      rw [← HWH2.out]
      clear HWH2 k15
    all_goals
      have HFA := Lib.hid (frame_any08 16 HJH.out.wo (fun W1 hb => dec08 (HE.out.later (HJH.out.bel.trans (hb.mono HJH.out.bel.size))) 16 (show (⟨VH.L.toArray⟩ : ByteArray).size ≤ 900000 from by rw [bsize, HEH.out]; have := HLN.out.2.2.2; omega)))
      rw [show frR VH 16 (dcK 16 ⟨VH.L.toArray⟩).1 = q from by rw [HQ5.out, HEH.out]] at HFA
      go_wp2_with fail
      refine HFA.out.mono ?_
      rintro x wI ⟨e8, rfl, he8, hb8⟩
      have r1 := HJH.out.r1.below hb8 HJH.out.r1.lt
      have hb := HJH.out.bel.trans (hb8.mono HJH.out.bel.size)
      obtain ⟨⟨z0, z1, y0, y1⟩, ⟨z2, y2⟩, ⟨f0, f1⟩, ferr⟩ := fr_facts (S := S) r1 (.int .i64 q.first) (.string q.s)
      have hbf := (hb.setCell (p := ⟨w.heap.size + 1, 0, none⟩) (by show w.heap.size ≤ w.heap.size + 1; omega) (.int .i64 q.first)).setCell (p := ⟨w.heap.size + 1, 1, none⟩) (by show w.heap.size ≤ w.heap.size + 1; omega) (.string q.s)
      have HX := Lib.hid (show FrSays w S q (.returned (.tuple #[.agg #[.int .i64 q.first, .string q.s], e8])) _ from ⟨e8, rfl, ferr _ _ _ _ he8, hbf⟩)
      clear hb8 r1 hb ferr hbf he8 HFA
      go_wp2
      exact bodyPost_ret (v := .tuple #[.agg #[.int .i64 q.first, .string q.s], e8]) (by simp [results, Tryz.results7, go_sem, f0, f1]) rfl HX.out
end
end Go.Proofs.YtfkimpcaokgldaaGreatDoor
namespace Go.Proofs.YtfkimpcaokgldaaGreatDoor
set_option maxRecDepth 100000
open Go.ChangeShapes Go.WideShapes Go.RowKit Go.Deep Go.Extern.Stop Go.Stop Go.Extern
section
variable {w w' : World} {S : Nat → Addr} {A : PkA} {p : Pk} {s : ByteArray}
set_option maxHeartbeats 32000000 in
theorem enc08_yes (hE : Env w S) (h : PkIn w w.heap.size A p) (hS : SmK p) (hw : p.wHas = true) (hq1 : ¬ p.wQos < 0) (hq2 : ¬ 3 < p.wQos) : Calls Tryz.prog 7 #[p.agg A] w (FrSays w S (enK p)) := by
  obtain ⟨q, hq⟩ : ∃ q, q = enK p := ⟨_, rfl⟩
  rw [← hq]
  unfold enK at hq
  have hfl := fun W (hh : p.wHas = true → 0 ≤ p.wQos ∧ p.wQos ≤ 3) => flg08 A p hh W
  obtain ⟨c, hc⟩ : ∃ c, c = p.cells A := ⟨_, rfl⟩
  rw [show p.agg A = .agg c from by rw [hc]; rfl] at hfl ⊢
  have HCS := Lib.hid (show c.size = 26 by rw [hc]; rfl)
  have HC3 := Lib.hid (show c[3]? = some (.slice A.pa p.props.length A.pc) by rw [hc]; rfl)
  have HC5 := Lib.hid (show c[5]? = some (.int .i64 p.keep) by rw [hc]; rfl)
  have HC6 := Lib.hid (show c[6]? = some (.string p.client) by rw [hc]; rfl)
  have HC7 := Lib.hid (show c[7]? = some (.bool p.wHas) by rw [hc]; rfl)
  have HC8 := Lib.hid (show c[8]? = some (.string p.wTopic) by rw [hc]; rfl)
  have HC9 := Lib.hid (show c[9]? = some (.string p.wPay) by rw [hc]; rfl)
  have HC10 := Lib.hid (show c[10]? = some (.int .i64 p.wQos) by rw [hc]; rfl)
  have HC12 := Lib.hid (show c[12]? = some (.slice A.wa p.wProps.length A.wc) by rw [hc]; rfl)
  have HC13 := Lib.hid (show c[13]? = some (.bool p.hasUser) by rw [hc]; rfl)
  have HC14 := Lib.hid (show c[14]? = some (.string p.user) by rw [hc]; rfl)
  have HC15 := Lib.hid (show c[15]? = some (.bool p.hasPass) by rw [hc]; rfl)
  have HC16 := Lib.hid (show c[16]? = some (.string p.pass) by rw [hc]; rfl)
  obtain ⟨W2, hW2⟩ : ∃ W, W = (w.alloc (.cells c 29)).alloc (.cells #[.int .i64 0, .string ⟨#[]⟩] 33) := ⟨_, rfl⟩
  have a1 : Below w.heap.size w (w.alloc (.cells c 29)) := (Below.refl _ _).alloc (Nat.le_refl _) _
  have hb2 : Below w.heap.size w W2 := by rw [hW2]; exact a1.trans (((Below.refl (w.alloc (.cells c 29)).heap.size _).alloc (Nat.le_refl _) (.cells #[.int .i64 0, .string ⟨#[]⟩] 33)).mono a1.size)
  have r0 : Blk W2 w.heap.size 29 c := by
    rw [hW2]; exact (Blk.made w 29 c).alloc (.cells #[.int .i64 0, .string ⟨#[]⟩] 33)
  have r1 : Blk W2 (w.heap.size + 1) 33 #[.int .i64 0, .string ⟨#[]⟩] := by
    have h := Blk.made (w.alloc (.cells c 29)) 33 #[.int .i64 0, .string ⟨#[]⟩]
    rw [World.size_alloc] at h
    rw [hW2]; exact h
  have k7 : W2.cell? ⟨w.heap.size, 7, none⟩ = some (.bool p.wHas) := (r0.cell 7).trans HC7.out
  have k10 : W2.cell? ⟨w.heap.size, 10, none⟩ = some (.int .i64 p.wQos) := (r0.cell 10).trans HC10.out
  have k3 : W2.cell? ⟨w.heap.size, 3, none⟩ = some (.slice A.pa p.props.length A.pc) := (r0.cell 3).trans HC3.out
  rw [if_neg (fun hh => by rcases hh.2 with hh | hh <;> omega)] at hq
  have HFL := Lib.hid (fun W => hfl W fun _ => ⟨by omega, by omega⟩)
  have hln := wrK_len hS.1 hS.2.1 hS.2.2.1 hS.2.2.2.1 hS.2.2.2.2.1 hS.2.2.2.2.2.1 hS.2.2.2.2.2.2
  have hec := encode_any (hE.later hb2) 1 p.props.length A.pc rfl ((h.pr.below hb2).mono hb2.size) hS.1 h.pc
  have hel := encR_len (k := 1) hS.1
  have HEW := Lib.hid (fun (W1 : World) (hb : Below w.heap.size w W1) => encode_any (hE.later hb) 16 p.wProps.length A.wc rfl ((h.wr.below hb).mono hb.size) hS.2.1 h.wc)
  have HELW := Lib.hid (encR_len (k := 16) hS.2.1)
  have hw1 : wrK1 p = stepW (stepW (stepW (stepW (stepW (stepW w0 (textE mqtt)) (numE 1 5)) (numE 1 (flK p : Nat))) (numE 2 p.keep)) ⟨0, 0, (encR 1 p.props).L⟩) (textE p.client) := rfl
  obtain ⟨⟨en, er, ea, eb⟩, hE2⟩ : ∃ E, E = encR 1 p.props := ⟨_, rfl⟩
  rw [← hE2] at hq hec hel hw1
  simp only at hec hel hq hw1
  obtain ⟨fl, hflk⟩ : ∃ f, f = flK p := ⟨_, rfl⟩
  have HFK := Lib.hid (show fl < 1000 by
    have := (fl_cases (p := p) (fun hh => by rcases hh.2 with hh | hh <;> omega)).1
    omega)
  rw [← hflk] at HFL hw1
  have HEC := Lib.hid hec
  have HEL := Lib.hid hel
  have HQ := Lib.hid hq
  have HLN := Lib.hid hln
  have HSM := Lib.hid hS
  have HE := Lib.hid hE
  have HW1 := Lib.hid hw1
  have HW2 := Lib.hid hW2
  have HB2 := Lib.hid hb2
  have R0 := Lib.hid r0
  have R1 := Lib.hid r1
  have HWH := Lib.hid hw
  rw [hw] at k7 HC7
  clear hq hc a1 hb2 r0 r1 hE h hS hW2 hfl hln hec hel hE2 hflk hw1 hw HC3
  go_enter Tryz.func7, Tryz.ntmps7
  go_upto_region 1 with (refine wpk_box HCS.out _ rfl rfl rfl ?_)
  rw [← HW2.out]
  go_wp2_with fail
  refine HEC.out.mono ?_
  rintro x w3 ⟨e3, rfl, he3, hb3⟩
  simp only at he3 ⊢
  have R03 := Lib.hid (R0.out.below hb3 R0.out.lt)
  have R13 := Lib.hid (R1.out.below hb3 R1.out.lt)
  have HB3 := Lib.hid (HB2.out.trans (hb3.mono HB2.out.size))
  clear k3 k7 k10 HEC R0 R1 hb3 HB2 HW2 hq1 hq2
  by_cases h0 : en = 0
  rotate_left
  · have hq := HQ.out
    rw [if_neg h0] at hq
    obtain ⟨te, ue, rfl⟩ := err_iface he3 h0
    obtain ⟨⟨z0, z1, y0, y1⟩, ⟨z2, y2⟩, ⟨f0, f1⟩, ferr⟩ := fr_facts (S := S) R13.out (.int .i64 0) (.string ⟨#[]⟩)
    have hbf := (HB3.out.setCell (p := ⟨w.heap.size + 1, 0, none⟩) (by show w.heap.size ≤ w.heap.size + 1; omega) (.int .i64 0)).setCell (p := ⟨w.heap.size + 1, 1, none⟩) (by show w.heap.size ≤ w.heap.size + 1; omega) (.string ⟨#[]⟩)
    have HX := Lib.hid (show FrSays w S q (.returned (.tuple #[.agg #[.int .i64 0, .string ⟨#[]⟩], .iface te ue])) _ from by
      rw [hq]
      exact ⟨_, rfl, ferr _ _ _ _ he3, hbf⟩)
    clear ferr hbf he3
    go_wp2
    exact bodyPost_ret (v := .tuple #[.agg #[.int .i64 0, .string ⟨#[]⟩], .iface te ue]) (by simp [results, Tryz.results7, go_sem, f0, f1]) rfl HX.out
  have hq := HQ.out
  rw [if_pos h0] at hq
  unfold ErrOf at he3
  rw [if_pos h0] at he3
  subst he3
  have HQ3 := Lib.hid hq
  obtain ⟨W4, hW4⟩ : ∃ W, W = w3.alloc (.cells #[.slice none 0 0, .nilIface] 64) := ⟨_, rfl⟩
  have b4 : Below w3.heap.size w3 W4 := by rw [hW4]; exact (Below.refl _ _).alloc (Nat.le_refl _) _
  have ho : WObj W4 S w.heap.size w3.heap.size (.slice none 0 0) w0 := by rw [hW4]; exact WObj.made w3 S HB3.out.size
  have hj4 : EnJ w W4 S c w3.heap.size (.slice none 0 0) w0 := ⟨HB3.out.trans (b4.mono HB3.out.size), R03.out.below b4 R03.out.lt, R13.out.below b4 R13.out.lt, ho⟩
  have HJ4 := Lib.hid hj4
  have HTX := Lib.hid (wtext_any (HE.out.later hj4.bel) hj4.wo (by decide) mqtt (by decide))
  have HW4 := Lib.hid hW4
  clear hq b4 ho hW4 hj4 HQ R03 R13 HB3
  go_wp2_with fail
  rw [← HW4.out]
  refine HTX.out.mono ?_
  rintro x w5 ⟨rfl, v5, hn5⟩
  obtain ⟨V5, hV5⟩ : ∃ V, V = stepW w0 (textE mqtt) := ⟨_, rfl⟩
  rw [← hV5] at hn5
  have hl5 : V5.L.length ≤ 10 := by rw [hV5]; decide +kernel
  have hj5 := HJ4.out.step hn5
  have HU := Lib.hid (wu8_any (HE.out.later hj5.bel) hj5.wo (by omega) 5)
  have HL5 := Lib.hid hl5
  have HV5 := Lib.hid hV5
  have HJ5 := Lib.hid hj5
  clear hn5 hV5 hl5 hj5 HTX HJ4 HW4
  go_wp2_with fail
  refine HU.out.mono ?_
  rintro x w6 ⟨rfl, v6, hn6⟩
  obtain ⟨V6, hV6⟩ : ∃ V, V = stepW V5 (numE 1 5) := ⟨_, rfl⟩
  rw [← hV6] at hn6
  have hl6 : V6.L.length ≤ 20 := by
    have h1 := stepW_len V5 (numE 1 5)
    have h2 := numE_len 1 5
    have h3 := HL5.out
    rw [hV6]
    omega
  have hj6 := HJ5.out.step hn6
  have HL6 := Lib.hid hl6
  have HV6 := Lib.hid hV6
  have HJ6 := Lib.hid hj6
  clear hn6 hV6 hl6 hj6 HU HJ5
  go_wp2_with (refine wpk_load HJ6.out.r0 HCS.out _ rfl rfl rfl ?_)
  refine (HFL.out w6).mono ?_
  rintro x w7 ⟨rfl, hb7⟩
  have hj7 := HJ6.out.below hb7
  have HU := Lib.hid (wu8_any (HE.out.later hj7.bel) hj7.wo (by have := HL6.out; omega) (fl : Nat))
  have HJ7 := Lib.hid hj7
  clear hb7 hj7 HJ6
  go_wp2_with fail
  refine HU.out.mono ?_
  rintro x w8 ⟨rfl, v8, hn8⟩
  obtain ⟨V8, hV8⟩ : ∃ V, V = stepW V6 (numE 1 (fl : Nat)) := ⟨_, rfl⟩
  rw [← hV8] at hn8
  have hl8 : V8.L.length ≤ 30 := by
    have h1 := stepW_len V6 (numE 1 (fl : Nat))
    have h2 := numE_len 1 (fl : Nat)
    have h3 := HL6.out
    rw [hV8]
    omega
  have hj8 := HJ7.out.step hn8
  have k5 := hj8.get HC5.out
  have HU2 := Lib.hid (wu16_any (HE.out.later hj8.bel) hj8.wo (by omega) p.keep)
  have HL8 := Lib.hid hl8
  have HV8 := Lib.hid hV8
  have HJ8 := Lib.hid hj8
  clear hn8 hV8 hl8 hj8 HU HJ7
  go_wp2_with fail
  refine HU2.out.mono ?_
  rintro x w9 ⟨rfl, v9, hn9⟩
  obtain ⟨V9, hV9⟩ : ∃ V, V = stepW V8 (numE 2 p.keep) := ⟨_, rfl⟩
  rw [← hV9] at hn9
  have hl9 : V9.L.length ≤ 40 := by
    have h1 := stepW_len V8 (numE 2 p.keep)
    have h2 := numE_len 2 p.keep
    have h3 := HL8.out
    rw [hV9]
    omega
  have hj9 := HJ8.out.step hn9
  have HRW := Lib.hid (wraw_any hj9.wo (by omega) ⟨eb.toArray⟩ (by rw [bsize]; have := HEL.out; omega))
  have HL9 := Lib.hid hl9
  have HV9 := Lib.hid hV9
  have HJ9 := Lib.hid hj9
  clear hn9 hV9 hl9 hj9 HU2 HJ8 k5
  go_wp2_with fail
  refine HRW.out.mono ?_
  rintro x wA ⟨rfl, vA, hnA⟩
  obtain ⟨VA, hVA⟩ : ∃ V, V = stepW V9 ⟨0, 0, eb⟩ := ⟨_, rfl⟩
  rw [← hVA] at hnA
  have hlA : VA.L.length ≤ 65600 := by
    have h1 := stepW_len V9 ⟨0, 0, eb⟩
    have h2 := HEL.out
    have h3 := HL9.out
    rw [hVA]
    simp only at h1
    omega
  have hjA := HJ9.out.step hnA
  have k6 := hjA.get HC6.out
  have HTX := Lib.hid (wtext_any (HE.out.later hjA.bel) hjA.wo (by omega) p.client HSM.out.2.2.1)
  have HVA := Lib.hid hVA
  have HJA := Lib.hid hjA
  clear hnA hVA hlA hjA HRW HJ9
  go_wp2_with fail
  refine HTX.out.mono ?_
  rintro x wB ⟨rfl, vB, hnB⟩
  obtain ⟨VB, hVB⟩ : ∃ V, V = stepW VA (textE p.client) := ⟨_, rfl⟩
  rw [← hVB] at hnB
  have hjB := HJA.out.step hnB
  have eVB : VB = wrK1 p := by rw [hVB, HVA.out, HV9.out, HV8.out, HV6.out, HV5.out, HW1.out]
  have k7 := hjB.get HC7.out
  have HEB := Lib.hid eVB
  have HJB := Lib.hid hjB
  clear hnB hVB hjB eVB HTX HJA k6 HV5 HV6 HV8 HV9 HVA HL5 HL6 HL8 HL9
  have k12 := HJB.out.get HC12.out
  have hew := HEW.out wB HJB.out.bel
  have helw := HELW.out
  obtain ⟨⟨fn, fr, fa, fb⟩, hE3⟩ : ∃ E, E = encR 16 p.wProps := ⟨_, rfl⟩
  rw [← hE3] at hew helw
  simp only at hew helw
  have HEW2 := Lib.hid hew
  have HEL2 := Lib.hid helw
  have HE3 := Lib.hid hE3
  clear hew helw hE3 HEW HELW
  go_wp2_with fail
  refine HEW2.out.mono ?_
  rintro x wC ⟨eC, rfl, heC, hbC⟩
  simp only at heC ⊢
  have HJC := Lib.hid (HJB.out.below hbC)
  clear k7 k12 HEW2 hbC
  by_cases h1 : fn = 0
  rotate_left
  · have hq := HQ3.out
    rw [← HE3.out] at hq
    simp only at hq
    rw [if_pos ⟨HWH.out, h1⟩] at hq
    obtain ⟨te, ue, rfl⟩ := err_iface heC h1
    obtain ⟨⟨z0, z1, y0, y1⟩, ⟨z2, y2⟩, ⟨f0, f1⟩, ferr⟩ := fr_facts (S := S) HJC.out.r1 (.int .i64 0) (.string ⟨#[]⟩)
    have hbf := (HJC.out.bel.setCell (p := ⟨w.heap.size + 1, 0, none⟩) (by show w.heap.size ≤ w.heap.size + 1; omega) (.int .i64 0)).setCell (p := ⟨w.heap.size + 1, 1, none⟩) (by show w.heap.size ≤ w.heap.size + 1; omega) (.string ⟨#[]⟩)
    have HX := Lib.hid (show FrSays w S q (.returned (.tuple #[.agg #[.int .i64 0, .string ⟨#[]⟩], .iface te ue])) _ from by
      rw [hq]
      exact ⟨_, rfl, ferr _ _ _ _ heC, hbf⟩)
    clear ferr hbf heC
    go_wp2
    exact bodyPost_ret (v := .tuple #[.agg #[.int .i64 0, .string ⟨#[]⟩], .iface te ue]) (by simp [results, Tryz.results7, go_sem, f0, f1]) rfl HX.out
  have hq := HQ3.out
  rw [← HE3.out] at hq
  simp only at hq
  rw [if_neg (fun hh => hh.2 h1)] at hq
  unfold ErrOf at heC
  rw [if_pos h1] at heC
  subst heC
  have HQ4 := Lib.hid hq
  have hlC : VB.L.length ≤ 130000 := by rw [HEB.out]; exact HLN.out.1
  have HRW := Lib.hid (wraw_any HJC.out.wo (by omega) ⟨fb.toArray⟩ (by rw [bsize]; have := HEL2.out; omega))
  have HLC := Lib.hid hlC
  clear hq hlC HQ3
  go_wp2_with fail
  refine HRW.out.mono ?_
  rintro x wD ⟨rfl, vD, hnD⟩
  obtain ⟨VD, hVD⟩ : ∃ V, V = stepW VB ⟨0, 0, fb⟩ := ⟨_, rfl⟩
  rw [← hVD] at hnD
  have hlD : VD.L.length ≤ 195600 := by
    have h1 := stepW_len VB ⟨0, 0, fb⟩
    have h2 := HEL2.out
    have h3 := HLC.out
    rw [hVD]
    simp only at h1
    omega
  have hjD := HJC.out.step hnD
  have k8 := hjD.get HC8.out
  have HTX := Lib.hid (wtext_any (HE.out.later hjD.bel) hjD.wo (by omega) p.wTopic HSM.out.2.2.2.1)
  have HLD := Lib.hid hlD
  have HVD := Lib.hid hVD
  have HJD := Lib.hid hjD
  clear hnD hVD hlD hjD HRW HJC
  go_wp2_with fail
  refine HTX.out.mono ?_
  rintro x wE ⟨rfl, vE, hnE⟩
  obtain ⟨VE, hVE⟩ : ∃ V, V = stepW VD (textE p.wTopic) := ⟨_, rfl⟩
  rw [← hVE] at hnE
  have hlE : VE.L.length ≤ 270000 := by
    have h1 := stepW_len VD (textE p.wTopic)
    have h2 := textE_len p.wTopic
    have h3 := HLD.out
    have h4 := HSM.out.2.2.2.1
    rw [hVE]
    omega
  have hjE := HJD.out.step hnE
  have k9 := hjE.get HC9.out
  have HBN := Lib.hid (wbin_any (HE.out.later hjE.bel) hjE.wo (by omega) p.wPay HSM.out.2.2.2.2.1)
  have HVE := Lib.hid hVE
  have HJE := Lib.hid hjE
  clear hnE hVE hlE hjE HTX HJD k8
  go_wp2_with fail
  refine HBN.out.mono ?_
  rintro x wF ⟨rfl, vF, hnF⟩
  obtain ⟨VF, hVF⟩ : ∃ V, V = stepW VE (binE p.wPay) := ⟨_, rfl⟩
  rw [← hVF] at hnF
  have hjF := HJE.out.step hnF
  have HEF := Lib.hid (show VF = wrK2 p (wrK1 p) by
    unfold wrK2
    rw [if_pos HWH.out, hVF, HVE.out, HVD.out, HEB.out, ← HE3.out])
  have HJF := Lib.hid hjF
  have HQ5 := Lib.hid (show q = frR (wrK p) 16 (dcK 16 ⟨(wrK p).L.toArray⟩).1 from HQ4.out)
  clear hnF hVF hjF HBN HJE k9 HVE HVD HEB HE3 HLC HLD HEL2 HQ4
  go_upto_region 20 with fail
  have hlF : VF.L.length ≤ 330000 := by rw [HEF.out]; exact HLN.out.2.1
  have k13 := HJF.out.get HC13.out
  by_cases hu : p.hasUser = true
  case' pos =>
    rw [hu] at k13
    have k14 := HJF.out.get HC14.out
    have HTX := Lib.hid (wtext_any (HE.out.later HJF.out.bel) HJF.out.wo (by omega) p.user HSM.out.2.2.2.2.2.1)
    have HU := Lib.hid hu
    clear hu hlF
    go_wp2_with fail
    refine HTX.out.mono ?_
    rintro x wG ⟨rfl, vG, hnG⟩
    obtain ⟨VG, hVG⟩ : ∃ V, V = stepW VF (textE p.user) := ⟨_, rfl⟩
    rw [← hVG] at hnG
    have HEG := Lib.hid (show VG = wrK3 p (wrK2 p (wrK1 p)) by
      unfold wrK3
      rw [if_pos HU.out, hVG, HEF.out])
    have HJG := Lib.hid (HJF.out.step hnG)
    clear hnG hVG HTX HJF HEF k13 k14 HU
    go_upto_region 22 with fail
  case' neg =>
    have hu' : p.hasUser = false := by simpa using hu
    rw [hu'] at k13
    obtain ⟨wG, hwG⟩ : ∃ X, X = wF := ⟨_, rfl⟩
    obtain ⟨vG, hvG⟩ : ∃ X, X = vF := ⟨_, rfl⟩
    obtain ⟨VG, hVG⟩ : ∃ X, X = VF := ⟨_, rfl⟩
    have HEG := Lib.hid (show VG = wrK3 p (wrK2 p (wrK1 p)) by
      unfold wrK3
      rw [if_neg hu, hVG, HEF.out])
    have HJG := Lib.hid (show EnJ w wG S c w3.heap.size vG VG by rw [hwG, hvG, hVG]; exact HJF.out)
    have HWG := Lib.hid hwG
    clear hu hu' hlF hvG hVG hwG HJF HEF
    go_upto_region 22 with fail
    rw [← HWG.out]
    clear HWG k13
  all_goals
    have hlG : VG.L.length ≤ 396000 := by rw [HEG.out]; exact HLN.out.2.2.1
    have k15 := HJG.out.get HC15.out
    by_cases hu : p.hasPass = true
    case' pos =>
      rw [hu] at k15
      have k16 := HJG.out.get HC16.out
      have HTX := Lib.hid (wbin_any (HE.out.later HJG.out.bel) HJG.out.wo (by omega) p.pass HSM.out.2.2.2.2.2.2)
      have HU := Lib.hid hu
      clear hu hlG
      go_wp2_with fail
      refine HTX.out.mono ?_
      rintro x wH ⟨rfl, vH, hnH⟩
      obtain ⟨VH, hVH⟩ : ∃ V, V = stepW VG (binE p.pass) := ⟨_, rfl⟩
      rw [← hVH] at hnH
      have HEH := Lib.hid (show VH = wrK p by
        unfold wrK wrK4
        rw [if_pos HU.out, hVH, HEG.out])
      have HJH := Lib.hid (HJG.out.step hnH)
      clear hnH hVH HTX HJG HEG k15 k16 HU
      go_upto_region 24 with fail
    case' neg =>
      have hu' : p.hasPass = false := by simpa using hu
      rw [hu'] at k15
      obtain ⟨wH, hwH⟩ : ∃ X, X = wG := ⟨_, rfl⟩
      obtain ⟨vH, hvH⟩ : ∃ X, X = vG := ⟨_, rfl⟩
      obtain ⟨VH, hVH⟩ : ∃ X, X = VG := ⟨_, rfl⟩
      have HEH := Lib.hid (show VH = wrK p by
        unfold wrK wrK4
        rw [if_neg hu, hVH, HEG.out])
      have HJH := Lib.hid (show EnJ w wH S c w3.heap.size vH VH by rw [hwH, hvH, hVH]; exact HJG.out)
      have HWH2 := Lib.hid hwH
      clear hu hu' hlG hvH hVH hwH HJG HEG
      go_upto_region 24 with fail
      rw [← HWH2.out]
      clear HWH2 k15
    all_goals
      have HFA := Lib.hid (frame_any08 16 HJH.out.wo (fun W1 hb => dec08 (HE.out.later (HJH.out.bel.trans (hb.mono HJH.out.bel.size))) 16 (show (⟨VH.L.toArray⟩ : ByteArray).size ≤ 900000 from by rw [bsize, HEH.out]; have := HLN.out.2.2.2; omega)))
      rw [show frR VH 16 (dcK 16 ⟨VH.L.toArray⟩).1 = q from by rw [HQ5.out, HEH.out]] at HFA
      go_wp2_with fail
      refine HFA.out.mono ?_
      rintro x wI ⟨e8, rfl, he8, hb8⟩
      have r1 := HJH.out.r1.below hb8 HJH.out.r1.lt
      have hb := HJH.out.bel.trans (hb8.mono HJH.out.bel.size)
      obtain ⟨⟨z0, z1, y0, y1⟩, ⟨z2, y2⟩, ⟨f0, f1⟩, ferr⟩ := fr_facts (S := S) r1 (.int .i64 q.first) (.string q.s)
      have hbf := (hb.setCell (p := ⟨w.heap.size + 1, 0, none⟩) (by show w.heap.size ≤ w.heap.size + 1; omega) (.int .i64 q.first)).setCell (p := ⟨w.heap.size + 1, 1, none⟩) (by show w.heap.size ≤ w.heap.size + 1; omega) (.string q.s)
      have HX := Lib.hid (show FrSays w S q (.returned (.tuple #[.agg #[.int .i64 q.first, .string q.s], e8])) _ from ⟨e8, rfl, ferr _ _ _ _ he8, hbf⟩)
      clear hb8 r1 hb ferr hbf he8 HFA
      go_wp2
      exact bodyPost_ret (v := .tuple #[.agg #[.int .i64 q.first, .string q.s], e8]) (by simp [results, Tryz.results7, go_sem, f0, f1]) rfl HX.out
theorem enc08 (hE : Env w S) (h : PkIn w w.heap.size A p) (hS : SmK p) : Calls Tryz.prog 7 #[p.agg A] w (FrSays w S (enK p)) := by
  rcases hw : p.wHas with _ | _
  · exact enc08_no hE h hS hw
  · by_cases hqq : p.wQos < 0 ∨ 3 < p.wQos
    · exact enc08_bad hE h hS hw hqq
    · exact enc08_yes hE h hS hw (fun h => hqq (.inl h)) (fun h => hqq (.inr h))
end
end Go.Proofs.YtfkimpcaokgldaaGreatDoor
namespace Go.Proofs.YtfkimpcaokgldaaGreatDoor
set_option maxRecDepth 100000
open Go.RowKit Go.Extern.Stop Go.Stop Go.Extern
def FewL (L : PL) : Prop := L.length ≤ 70 ∧ ∀ k, k < L.length → (L.getD k p0).s.size ≤ 200 ∧ (L.getD k p0).v.size ≤ 200
/-- Few parts, of few bytes. -/
structure FewK (p : Pk) : Prop where
  pr : FewL p.props
  wr : FewL p.wProps
  sb : p.subs.length ≤ 40
  fl : p.filters.length ≤ 40
  cd : p.codes.length ≤ 40
  sz : ∀ k, k < p.subs.length → (p.subs.getD k sv0).filter.size ≤ 200
  fz : ∀ k, k < p.filters.length → (p.filters.getD k ⟨#[]⟩).size ≤ 200
  ct : p.client.size ≤ 200
  wt : p.wTopic.size ≤ 200
  wp : p.wPay.size ≤ 200
  us : p.user.size ≤ 200
  ps : p.pass.size ≤ 200
  tp : p.topic.size ≤ 200
  pl : p.payload.size ≤ 200
theorem scell_get (L : List SV) : ∀ k, k < L.length → (L.flatMap SV.cells)[k * 5]? = some (.string (L.getD k sv0).filter) := by
  induction L with
  | nil => intro k hk; cases hk
  | cons x L ih =>
    intro k hk
    rw [List.flatMap_cons]
    rcases k with _ | k
    · rfl
    · rw [List.getElem?_append_right (by show 5 ≤ _; omega), show (k + 1) * 5 - x.cells.length = k * 5 from by show (k + 1) * 5 - 5 = _; omega]
      exact ih k (by simpa using hk)
def Few8 (w : World) (p : Pk) (x : Ending) (w' : World) : Prop := ∃ b : Bool, x = .returned (.bool b) ∧ (b = true → FewK p) ∧ Below w.heap.size w w'
set_option maxHeartbeats 16000000 in
theorem few08 {w : World} {A : PkA} {p : Pk} (h : PkArg w A p) : Calls Tryz.prog 5 #[p.agg A] w (Few8 w p) := by
  have hb1 : Below w.heap.size w (w.alloc (.cells (p.cells A) 29)) := (Below.refl _ _).alloc (Nat.le_refl _) _
  have HF := Lib.hid (show ∀ w' : World, Below w.heap.size w w' → Few8 w p (.returned (.bool false)) w' from fun _ hb => ⟨false, rfl, (fun h => by cases h), hb⟩)
  have HT := Lib.hid (show ∀ (b : Bool) (w' : World), (b = true → FewK p) → Below w.heap.size w w' → Few8 w p (.returned (.bool b)) w' from fun b _ h hb => ⟨b, rfl, h, hb⟩)
  have hin := h.inn.below hb1
  have h1 := h.pl
  have h2 := h.wl
  have h3 := h.sl
  have h4 := h.fl
  have h5 := h.cl
  have HP := Lib.hid (few06_any p.props.length A.pc hin.pr rfl h1)
  have HM := Lib.hid (few06_any p.wProps.length A.wc hin.wr rfl h2)
  have HS := Lib.hid (fun (g off : Nat) (_ : A.sa = some ⟨g, off, none⟩) => trivial)
  have HSB := Lib.hid hin.sb
  have HFL := Lib.hid hin.fl
  have HB := Lib.hid hb1
  clear hb1 hin h HS
  obtain ⟨c, hc⟩ : ∃ c, c = p.cells A := ⟨_, rfl⟩
  rw [show p.agg A = .agg c from by rw [hc]; rfl]
  rw [← hc] at HP HM HSB HFL HB
  have HCS := Lib.hid (show c.size = 26 from by rw [hc]; rfl)
  obtain ⟨kd, id, rs, L, cl, kp, ct, wh, wt, wp, wq, wr, M, hu, us, hp, ps, pr, tp, pl, qs, rt, dp, sb, fl, cd⟩ := p
  obtain ⟨xp, xpc, xw, xwc, xs, xsc, xf, xfc, xc, xcc⟩ := A
  simp only at HP HM HSB HFL HB h1 h2 h3 h4 h5 ⊢
  obtain ⟨nL, hnL⟩ : ∃ n, n = L.length := ⟨_, rfl⟩
  obtain ⟨nM, hnM⟩ : ∃ n, n = M.length := ⟨_, rfl⟩
  obtain ⟨nS, hnS⟩ : ∃ n, n = sb.length := ⟨_, rfl⟩
  obtain ⟨nF, hnF⟩ : ∃ n, n = fl.length := ⟨_, rfl⟩
  obtain ⟨nC, hnC⟩ : ∃ n, n = cd.length := ⟨_, rfl⟩
  rw [← hnL] at h1 HP
  rw [← hnM] at h2 HM
  rw [← hnS] at h3
  rw [← hnF] at h4
  rw [← hnC] at h5
  have r0 := Blk.made w 29 c
  obtain ⟨W1, hW1⟩ : ∃ W, W = w.alloc (.cells c 29) := ⟨_, rfl⟩
  rw [← hW1] at r0 HP HM HSB HFL HB
  have HW1 := Lib.hid hW1
  have k23 : W1.cell? ⟨w.heap.size, 23, none⟩ = some (.slice xs nS xsc) := by rw [r0.cell 23, hc, hnS]; rfl
  have k24 : W1.cell? ⟨w.heap.size, 24, none⟩ = some (.slice xf nF xfc) := by rw [r0.cell 24, hc, hnF]; rfl
  have k25 : W1.cell? ⟨w.heap.size, 25, none⟩ = some (.slice xc nC xcc) := by rw [r0.cell 25, hc, hnC]; rfl
  have k3 : W1.cell? ⟨w.heap.size, 3, none⟩ = some (.slice xp nL xpc) := by rw [r0.cell 3, hc, hnL]; rfl
  have k12 : W1.cell? ⟨w.heap.size, 12, none⟩ = some (.slice xw nM xwc) := by rw [r0.cell 12, hc, hnM]; rfl
  have k6 : W1.cell? ⟨w.heap.size, 6, none⟩ = some (.string ct) := by rw [r0.cell 6, hc]; rfl
  have k8 : W1.cell? ⟨w.heap.size, 8, none⟩ = some (.string wt) := by rw [r0.cell 8, hc]; rfl
  have k9 : W1.cell? ⟨w.heap.size, 9, none⟩ = some (.string wp) := by rw [r0.cell 9, hc]; rfl
  have k14 : W1.cell? ⟨w.heap.size, 14, none⟩ = some (.string us) := by rw [r0.cell 14, hc]; rfl
  have k16 : W1.cell? ⟨w.heap.size, 16, none⟩ = some (.string ps) := by rw [r0.cell 16, hc]; rfl
  have k18 : W1.cell? ⟨w.heap.size, 18, none⟩ = some (.string tp) := by rw [r0.cell 18, hc]; rfl
  have k19 : W1.cell? ⟨w.heap.size, 19, none⟩ = some (.string pl) := by rw [r0.cell 19, hc]; rfl
  have HN := Lib.hid (And.intro hnL (And.intro hnM (And.intro hnS (And.intro hnF hnC))))
  clear hnL hnM hnS hnF hnC hc r0 hW1
  go_enter Tryz.func5, Tryz.ntmps5
  go_wp2_with (refine wpk_box HCS.out _ rfl rfl rfl ?_)
  rw [← HW1.out]
  go_loop [3] (fun i => ∃ k : Nat, k ≤ nS ∧ k ≤ 40 ∧ i = .int .i64 k ∧ Hid (∀ j, j < k → (sb.getD j sv0).filter.size ≤ 200)) (fun i => 40 - (intOf i).toNat)
  case atStart => exact ⟨0, by omega, by omega, rfl, Lib.hid fun j hj => absurd hj (by omega)⟩
  case round =>
    obtain ⟨k, hk, hk2, rfl, HJ⟩ := hrel
    by_cases hlt : k < nS ∧ k < 40
    · obtain ⟨hlt, hlt2⟩ := hlt
      have hl : 0 < (sb.flatMap SV.cells).length := by rw [flat_len SV.cells 5 (fun _ => rfl)]; have := HN.out.2.2.1; omega
      obtain ⟨g, off, rfl, hc, _⟩ := HSB.out hl
      have c1 := hc (k * 5) _ (scell_get sb k (by have := HN.out.2.2.1; omega))
      obtain ⟨s, hs⟩ : ∃ s, s = (sb.getD k sv0).filter := ⟨_, rfl⟩
      rw [← hs] at c1
      have HSS := Lib.hid hs
      clear hc hl hs
      by_cases hz : 200 < s.size
      · go_wp2_with fail
        go_ret
        exact HF.out _ HB.out
      · have hz' : s.size ≤ 200 := by omega
        clear hz
        go_wp2_with fail
        go_round
        case rel => exact ⟨k + 1, by omega, by omega, by go_num, Lib.hid fun j hj => by
          by_cases hjk : j = k
          · subst hjk; rw [← HSS.out]; exact hz'
          · exact HJ.out j (by omega)⟩
        case measure => simp [intOf]; omega
    · have hx : nS ≤ 40 ∧ k = nS ∨ 40 < nS ∧ k = 40 := by omega
      clear hlt hk hk2
      rcases hx with ⟨hS40, rfl⟩ | ⟨hS40, rfl⟩
      case' inl =>
        have hS40' : ¬ 40 < k := by omega
        go_wp2_with fail
      case' inr =>
        have hS40' : ¬ nS ≤ 40 := by omega
        go_wp2_with fail
      case inr =>
        clear HSB HJ
        go_loop [4] (fun i => ∃ k : Nat, k ≤ nF ∧ k ≤ 40 ∧ i = .int .i64 k) (fun i => 40 - (intOf i).toNat)
        case atStart => exact ⟨0, by omega, by omega, rfl⟩
        case round =>
          obtain ⟨k, hk, hk2, rfl⟩ := hrel
          by_cases hlt : k < nF ∧ k < 40
          · obtain ⟨hlt, hlt2⟩ := hlt
            have hl : 0 < (fl.flatMap tCell).length := by rw [flat_len tCell 1 (fun _ => rfl)]; have := HN.out.2.2.2.1; omega
            obtain ⟨g, off, rfl, hc, _⟩ := HFL.out hl
            have c1 := hc k _ (tcell_get fl k (by have := HN.out.2.2.2.1; omega))
            generalize fl.getD k ⟨#[]⟩ = s at c1
            clear hc hl
            by_cases hz : 200 < s.size
            · go_wp2_with fail
              go_ret
              exact HF.out _ HB.out
            · have hz' : s.size ≤ 200 := by omega
              clear hz
              go_wp2_with fail
              go_round
              case rel => exact ⟨k + 1, by omega, by omega, by go_num⟩
              case measure => simp [intOf]; omega
          · have hx : nF ≤ 40 ∧ k = nF ∨ 40 < nF ∧ k = 40 := by omega
            clear hlt hk hk2 k25 k3 k12 k6 k8 k9 k14 k16 k18 k19 h1 h2 h3 h4 h5 HP HM HFL HN
            rcases hx with ⟨hF40, rfl⟩ | ⟨hF40, rfl⟩
            · go_wp2_with fail
              go_ret
              exact HF.out _ HB.out
            · have hF40' : ¬ nF ≤ 40 := by omega
              go_wp2_with fail
              go_ret
              exact HF.out _ HB.out
      case inl =>
        clear HSB
        go_loop [4] (fun i => ∃ m : Nat, m ≤ nF ∧ m ≤ 40 ∧ i = .int .i64 m ∧ Hid (∀ j, j < m → (fl.getD j ⟨#[]⟩).size ≤ 200)) (fun i => 40 - (intOf i).toNat)
        case atStart => exact ⟨0, by omega, by omega, rfl, Lib.hid fun j hj => absurd hj (by omega)⟩
        case round =>
          obtain ⟨m, hm, hm2, rfl, HI⟩ := hrel
          by_cases hlt : m < nF ∧ m < 40
          · obtain ⟨hlt, hlt2⟩ := hlt
            have hl : 0 < (fl.flatMap tCell).length := by rw [flat_len tCell 1 (fun _ => rfl)]; have := HN.out.2.2.2.1; omega
            obtain ⟨g, off, rfl, hc, _⟩ := HFL.out hl
            have c1 := hc m _ (tcell_get fl m (by have := HN.out.2.2.2.1; omega))
            obtain ⟨s, hs⟩ : ∃ s, s = fl.getD m ⟨#[]⟩ := ⟨_, rfl⟩
            rw [← hs] at c1
            have HSS := Lib.hid hs
            clear hc hl hs
            by_cases hz : 200 < s.size
            · go_wp2_with fail
              go_ret
              exact HF.out _ HB.out
            · have hz' : s.size ≤ 200 := by omega
              clear hz
              go_wp2_with fail
              go_round
              case rel => exact ⟨m + 1, by omega, by omega, by go_num, Lib.hid fun j hj => by
                by_cases hjk : j = m
                · subst hjk; rw [← HSS.out]; exact hz'
                · exact HI.out j (by omega)⟩
              case measure => simp [intOf]; omega
          · have hx : nF ≤ 40 ∧ m = nF ∨ 40 < nF ∧ m = 40 := by omega
            clear hlt hm hm2
            rcases hx with ⟨hF40, rfl⟩ | ⟨hF40, rfl⟩
            · by_cases hC40 : nC ≤ 40
              · go_wp2_with fail
                refine HP.out.mono ?_
                rintro x w2 ⟨⟨bp, rfl, hbp⟩, rfl⟩
                cases bp with
                | false =>
                  clear k23 k24 k25 k3 k12 k6 k8 k9 k14 k16 k18 k19 h1 h2 h3 h4 h5 HP HM HFL HN HI HJ
                  go_wp2_with fail
                  go_ret
                  exact HF.out _ HB.out
                | true =>
                  clear k23 k24 k25 k3 h1 h2 h3 h4 h5
                  have HBP := Lib.hid (hbp rfl)
                  clear hbp
                  go_wp2_with fail
                  refine HM.out.mono ?_
                  rintro x w2 ⟨⟨bm, rfl, hbm⟩, rfl⟩
                  cases bm with
                  | false =>
                    clear k12 k6 k8 k9 k14 k16 k18 k19 HP HM HFL HN HI HJ
                    go_wp2_with fail
                    go_ret
                    exact HF.out _ HB.out
                  | true =>
                    have HBM := Lib.hid (hbm rfl)
                    clear hbm k12
                    by_cases zct : ct.size ≤ 200
                    case neg =>
                      have zct' : 200 < ct.size := by omega
                      clear k8 k9 k14 k16 k18 k19
                      go_wp2_with fail
                      go_ret
                      exact HF.out _ HB.out
                    by_cases zwt : wt.size ≤ 200
                    case neg =>
                      have zwt' : 200 < wt.size := by omega
                      clear k9 k14 k16 k18 k19
                      go_wp2_with fail
                      go_ret
                      exact HF.out _ HB.out
                    by_cases zwp : wp.size ≤ 200
                    case neg =>
                      have zwp' : 200 < wp.size := by omega
                      clear k14 k16 k18 k19
                      go_wp2_with fail
                      go_ret
                      exact HF.out _ HB.out
                    by_cases zus : us.size ≤ 200
                    case neg =>
                      have zus' : 200 < us.size := by omega
                      clear k16 k18 k19
                      go_wp2_with fail
                      go_ret
                      exact HF.out _ HB.out
                    by_cases zps : ps.size ≤ 200
                    case neg =>
                      have zps' : 200 < ps.size := by omega
                      clear k18 k19
                      go_wp2_with fail
                      go_ret
                      exact HF.out _ HB.out
                    by_cases ztp : tp.size ≤ 200
                    case neg =>
                      have ztp' : 200 < tp.size := by omega
                      clear k19
                      go_wp2_with fail
                      go_ret
                      exact HF.out _ HB.out
                    go_wp2_with fail
                    go_ret
                    refine HT.out _ _ (fun hlast => ?_) HB.out
                    have zpl : pl.size ≤ 200 := by
                      have h9 := of_decide_eq_true hlast
                      omega
                    obtain ⟨n1, n2, n3, n4, n5⟩ := HN.out
                    subst n1 n2 n3 n4 n5
                    exact ⟨HBP.out, HBM.out, hS40, hF40, hC40, HJ.out, HI.out, zct, zwt, zwp, zus, zps, ztp, zpl⟩
              · have hC40' : 40 < nC := by omega
                clear k3 k12 k6 k8 k9 k14 k16 k18 k19 h1 h2 h3 h4 h5 HP HM HFL HN HI HJ
                go_wp2_with fail
                go_ret
                exact HF.out _ HB.out
            · have hF40' : ¬ nF ≤ 40 := by omega
              clear k25 k3 k12 k6 k8 k9 k14 k16 k18 k19 h1 h2 h3 h4 h5 HP HM HFL HN HI HJ
              go_wp2_with fail
              go_ret
              exact HF.out _ HB.out
end Go.Proofs.YtfkimpcaokgldaaGreatDoor
namespace Go.Proofs.YtfkimpcaokgldaaGreatDoor
set_option maxRecDepth 100000
open Go.RowKit Go.Extern.Stop Go.Stop Go.Extern
structure SmIn08E (w W : World) (S : Nat → Addr) (no a : Nat) (r : Int) (e : Value) (g : Nat) : Prop where
  er : ErrOf W S r no a e
  env : EnvN W S
  box : Blk W g 40 #[.int .i64 no, .int .i64 r, .int .i64 a]
  bel : Below w.heap.size w W
theorem SmIn08E.below {w W W' : World} {S : Nat → Addr} {no a : Nat} {r : Int} {e : Value} {g : Nat} (h : SmIn08E w W S no a r e g) (hb : Below W.heap.size W W') : SmIn08E w W' S no a r e g := ⟨h.er.later hb, h.env.later hb, h.box.below hb h.box.lt, h.bel.trans (hb.mono h.bel.size)⟩
theorem SmIn08E.drewN {w W : World} {S : Nat → Addr} {no a : Nat} {r : Int} {e : Value} {g : Nat} (h : SmIn08E w W S no a r e g) (d : Nat) : SmIn08E w (W.drewN d) S no a r e g := h.below (below_drewN (Below.refl _ _) d)
/-- An error and the document's, that are the same. -/
theorem same08E (S : Nat → Addr) (no a : Nat) (r : Int) (e : Value) (w : World) (hE : EnvN w S) (he : ErrOf w S r no a e) :
    Calls Tryz.prog 9 #[e, .agg #[.int .i64 no, .int .i64 r, .int .i64 a]] w fun x w' => x = .returned (.bool true) ∧ Below w.heap.size w w' := by
  have hb0 : Below w.heap.size w (w.alloc (.cells #[.int .i64 no, .int .i64 r, .int .i64 a] 40)) := (Below.refl _ _).alloc (Nat.le_refl _) _
  have hi0 : SmIn08E w (w.alloc (.cells #[.int .i64 no, .int .i64 r, .int .i64 a] 40)) S no a r e w.heap.size := ⟨he.later hb0, hE.later hb0, Blk.made w 40 _, hb0⟩
  have KT := Lib.hid (fun (W : World) (h : SmIn08E w W S no a r e w.heap.size) => show W.cell? ⟨w.heap.size, 0, none⟩ = some (.int .i64 no) ∧ W.cell? ⟨w.heap.size, 1, none⟩ = some (.int .i64 r) ∧ W.cell? ⟨w.heap.size, 2, none⟩ = some (.int .i64 a) from ⟨h.box.cell 0, h.box.cell 1, h.box.cell 2⟩)
  have D14 := Lib.hid (fun (W : World) (h : SmIn08E w W S no a r e w.heap.size) => (number_of h.env h.er).mono fun x w' hx => show x = Ending.returned (.int .i64 no) ∧ SmIn08E w w' S no a r e w.heap.size from ⟨hx.1, h.below hx.2⟩)
  obtain ⟨t0, t1, t2⟩ := KT.out _ hi0
  by_cases h0 : no = 0
  · subst h0
    have he0 := he
    clear he hE hb0
    go_enter Tryz.func9, Tryz.ntmps9
    go_wp2_with fail
    obtain rfl : e = .nilIface := he0
    refine wp_region_held_drew (S := (fun W => SmIn08E w W S 0 a r .nilIface w.heap.size)) (by kernel_rfl) ?_ (fun hHeld => ?_)
    · (first | assumption | exact SmIn08E.drewN (by assumption) 1)
    refine wpAnyH_take (i := 0) (oi := { dst := some 5, op := Op.move (Operand.tmp 0), type := 35, pos := _, after := _, guard := none }) (v := .nilIface) rfl (by kernel_rfl) (by kernel_rfl) (by kernel_rfl) (fun _ _ _ h => h) (Or.inl ⟨by rfl, fun w' _ => ?_⟩) (by assumption) ?_
    · go_simp
    simp only [Act.put, List.setIfInBounds_toArray, List.set_cons_zero, List.set_cons_succ]
    refine wpAnyH_take (i := 2) (oi := { dst := some 7, op := Op.fieldAddr 40 (Operand.tmp 3) 0, type := 0, pos := _, after := _, guard := none }) (v := .pointer (some ⟨w.heap.size, 0, none⟩)) rfl (by kernel_rfl) (by kernel_rfl) (by kernel_rfl) (fun _ _ _ h => h) (Or.inl ⟨by rfl, fun w' _ => ?_⟩) (by assumption) ?_
    · go_simp
    simp only [Act.put, List.setIfInBounds_toArray, List.set_cons_zero, List.set_cons_succ]
    refine wpAnyH_take (i := 3) (oi := { dst := some 8, op := Op.load 38 (Operand.tmp 7), type := 38, pos := _, after := _, guard := none }) (v := .int .i64 ((0 : Nat) : Int)) rfl (by kernel_rfl) (by kernel_rfl) (by kernel_rfl) (fun _ _ _ h => h) (Or.inl ⟨by rfl, fun w' hSw => ?_⟩) (by assumption) ?_
    · (obtain ⟨x0, x1, x2⟩ := KT.out _ hSw; go_simp)
    simp only [Act.put, List.setIfInBounds_toArray, List.set_cons_zero, List.set_cons_succ]
    refine wpAnyH_ready (rs := [1]) (by kernel_rfl) (by simp) ?_
    refine AllReadyH.cons (o := { dst := some 6, op := Op.call { callee := Callee.value (Operand.func 15), args := #[Operand.tmp 5], argTypes := #[35] }, type := 38, pos := _, after := _, guard := none }) rfl (fun K hK => ?_) AllReadyH.nil
    go_simp
    refine (D14.out _ (by assumption)).mono ?_
    rintro x w6 ⟨rfl, hi6⟩
    go_wp2_with fail
    refine hK.out _ _ ?_ (fun hHeld1 => ?_)
    · (first | assumption | exact SmIn08E.drewN (by assumption) 1)
    clear hK K
    try simp only [Act.put, List.setIfInBounds_toArray, List.set_cons_zero, List.set_cons_succ]
    refine wpAnyH_take (i := 4) (oi := { dst := some 9, op := Op.binOp BinOp.eql 38 (Operand.tmp 6) (Operand.tmp 8) 38, type := 4, pos := _, after := _, guard := none }) (v := .bool true) rfl (by kernel_rfl) (by kernel_rfl) (by kernel_rfl) (fun _ _ _ h => h) (Or.inl ⟨by rfl, fun w' _ => ?_⟩) (by assumption) ?_
    · go_simp
    simp only [Act.put, List.setIfInBounds_toArray, List.set_cons_zero, List.set_cons_succ]
    refine wpAnyH_take (i := 5) (oi := { dst := some 10, op := Op.move (Operand.tmp 9), type := 4, pos := _, after := _, guard := none }) (v := .bool true) rfl (by kernel_rfl) (by kernel_rfl) (by kernel_rfl) (fun _ _ _ h => h) (Or.inl ⟨by rfl, fun w' _ => ?_⟩) (by assumption) ?_
    · go_simp
    simp only [Act.put, List.setIfInBounds_toArray, List.set_cons_zero, List.set_cons_succ]
    refine wpAnyH_take (i := 6) (oi := { dst := some 11, op := Op.fieldAddr 40 (Operand.tmp 3) 0, type := 0, pos := _, after := _, guard := some (5, true) }) (v := .pointer (some ⟨w.heap.size, 0, none⟩)) rfl (by kernel_rfl) (by kernel_rfl) (by kernel_rfl) (fun _ _ _ h => h) (Or.inl ⟨by rfl, fun w' _ => ?_⟩) (by assumption) ?_
    · go_simp
    simp only [Act.put, List.setIfInBounds_toArray, List.set_cons_zero, List.set_cons_succ]
    refine wpAnyH_take (i := 7) (oi := { dst := some 12, op := Op.load 38 (Operand.tmp 11), type := 38, pos := _, after := _, guard := some (5, true) }) (v := .int .i64 ((0 : Nat) : Int)) rfl (by kernel_rfl) (by kernel_rfl) (by kernel_rfl) (fun _ _ _ h => h) (Or.inl ⟨by rfl, fun w' hSw => ?_⟩) (by assumption) ?_
    · (obtain ⟨x0, x1, x2⟩ := KT.out _ hSw; go_simp)
    simp only [Act.put, List.setIfInBounds_toArray, List.set_cons_zero, List.set_cons_succ]
    refine wpAnyH_take (i := 8) (oi := { dst := some 13, op := Op.binOp BinOp.eql 38 (Operand.tmp 12) (Operand.const (Value.int IntKind.i64 0)) 38, type := 4, pos := _, after := _, guard := some (5, true) }) (v := .bool true) rfl (by kernel_rfl) (by kernel_rfl) (by kernel_rfl) (fun _ _ _ h => h) (Or.inl ⟨by rfl, fun w' _ => ?_⟩) (by assumption) ?_
    · go_simp
    simp only [Act.put, List.setIfInBounds_toArray, List.set_cons_zero, List.set_cons_succ]
    refine wpAnyH_take (i := 9) (oi := { dst := some 14, op := Op.move (Operand.tmp 13), type := 4, pos := _, after := _, guard := some (5, true) }) (v := .bool true) rfl (by kernel_rfl) (by kernel_rfl) (by kernel_rfl) (fun _ _ _ h => h) (Or.inl ⟨by rfl, fun w' _ => ?_⟩) (by assumption) ?_
    · go_simp
    simp only [Act.put, List.setIfInBounds_toArray, List.set_cons_zero, List.set_cons_succ]
    refine wpAnyH_take (i := 10) (oi := { dst := some 15, op := Op.move (Operand.tmp 0), type := 35, pos := _, after := _, guard := some (9, false) }) (v := undef) rfl (by kernel_rfl) (by kernel_rfl) (by kernel_rfl) (fun _ _ _ h => h) (Or.inr ⟨by rfl, rfl⟩) (by assumption) ?_
    simp only [Act.put, List.setIfInBounds_toArray, List.set_cons_zero, List.set_cons_succ]
    refine wpAnyH_take (i := 11) (oi := { dst := some 16, op := Op.call { callee := Callee.value (Operand.func 19), args := #[Operand.tmp 15], argTypes := #[35] }, type := 3, pos := _, after := _, guard := some (9, false) }) (v := undef) rfl (by kernel_rfl) (by kernel_rfl) (by kernel_rfl) (fun _ _ _ h => h) (Or.inr ⟨by rfl, rfl⟩) (by assumption) ?_
    simp only [Act.put, List.setIfInBounds_toArray, List.set_cons_zero, List.set_cons_succ]
    refine wpAnyH_take (i := 12) (oi := { dst := some 17, op := Op.fieldAddr 40 (Operand.tmp 3) 1, type := 0, pos := _, after := _, guard := some (9, false) }) (v := undef) rfl (by kernel_rfl) (by kernel_rfl) (by kernel_rfl) (fun _ _ _ h => h) (Or.inr ⟨by rfl, rfl⟩) (by assumption) ?_
    simp only [Act.put, List.setIfInBounds_toArray, List.set_cons_zero, List.set_cons_succ]
    refine wpAnyH_take (i := 13) (oi := { dst := some 18, op := Op.load 3 (Operand.tmp 17), type := 3, pos := _, after := _, guard := some (9, false) }) (v := undef) rfl (by kernel_rfl) (by kernel_rfl) (by kernel_rfl) (fun _ _ _ h => h) (Or.inr ⟨by rfl, rfl⟩) (by assumption) ?_
    simp only [Act.put, List.setIfInBounds_toArray, List.set_cons_zero, List.set_cons_succ]
    refine wpAnyH_take (i := 14) (oi := { dst := some 19, op := Op.binOp BinOp.eql 3 (Operand.tmp 16) (Operand.tmp 18) 3, type := 4, pos := _, after := _, guard := some (9, false) }) (v := undef) rfl (by kernel_rfl) (by kernel_rfl) (by kernel_rfl) (fun _ _ _ h => h) (Or.inr ⟨by rfl, rfl⟩) (by assumption) ?_
    simp only [Act.put, List.setIfInBounds_toArray, List.set_cons_zero, List.set_cons_succ]
    refine wpAnyH_take (i := 15) (oi := { dst := some 20, op := Op.move (Operand.tmp 19), type := 4, pos := _, after := _, guard := some (9, false) }) (v := undef) rfl (by kernel_rfl) (by kernel_rfl) (by kernel_rfl) (fun _ _ _ h => h) (Or.inr ⟨by rfl, rfl⟩) (by assumption) ?_
    simp only [Act.put, List.setIfInBounds_toArray, List.set_cons_zero, List.set_cons_succ]
    refine wpAnyH_take (i := 16) (oi := { dst := some 21, op := Op.move (Operand.tmp 0), type := 35, pos := _, after := _, guard := some (15, true) }) (v := undef) rfl (by kernel_rfl) (by kernel_rfl) (by kernel_rfl) (fun _ _ _ h => h) (Or.inr ⟨by rfl, rfl⟩) (by assumption) ?_
    simp only [Act.put, List.setIfInBounds_toArray, List.set_cons_zero, List.set_cons_succ]
    refine wpAnyH_take (i := 17) (oi := { dst := some 22, op := Op.call { callee := Callee.value (Operand.func 20), args := #[Operand.tmp 21], argTypes := #[35] }, type := 3, pos := _, after := _, guard := some (15, true) }) (v := undef) rfl (by kernel_rfl) (by kernel_rfl) (by kernel_rfl) (fun _ _ _ h => h) (Or.inr ⟨by rfl, rfl⟩) (by assumption) ?_
    simp only [Act.put, List.setIfInBounds_toArray, List.set_cons_zero, List.set_cons_succ]
    refine wpAnyH_take (i := 18) (oi := { dst := some 23, op := Op.fieldAddr 40 (Operand.tmp 3) 2, type := 0, pos := _, after := _, guard := some (15, true) }) (v := undef) rfl (by kernel_rfl) (by kernel_rfl) (by kernel_rfl) (fun _ _ _ h => h) (Or.inr ⟨by rfl, rfl⟩) (by assumption) ?_
    simp only [Act.put, List.setIfInBounds_toArray, List.set_cons_zero, List.set_cons_succ]
    refine wpAnyH_take (i := 19) (oi := { dst := some 24, op := Op.load 3 (Operand.tmp 23), type := 3, pos := _, after := _, guard := some (15, true) }) (v := undef) rfl (by kernel_rfl) (by kernel_rfl) (by kernel_rfl) (fun _ _ _ h => h) (Or.inr ⟨by rfl, rfl⟩) (by assumption) ?_
    simp only [Act.put, List.setIfInBounds_toArray, List.set_cons_zero, List.set_cons_succ]
    refine wpAnyH_take (i := 20) (oi := { dst := some 25, op := Op.binOp BinOp.eql 3 (Operand.tmp 22) (Operand.tmp 24) 3, type := 4, pos := _, after := _, guard := some (15, true) }) (v := undef) rfl (by kernel_rfl) (by kernel_rfl) (by kernel_rfl) (fun _ _ _ h => h) (Or.inr ⟨by rfl, rfl⟩) (by assumption) ?_
    simp only [Act.put, List.setIfInBounds_toArray, List.set_cons_zero, List.set_cons_succ]
    refine wpAnyH_take (i := 21) (oi := { dst := some 26, op := Op.pick (Operand.tmp 20) (Operand.tmp 25) (Operand.const (Value.bool false)), type := 4, pos := _, after := _, guard := some (9, false) }) (v := undef) rfl (by kernel_rfl) (by kernel_rfl) (by kernel_rfl) (fun _ _ _ h => h) (Or.inr ⟨by rfl, rfl⟩) (by assumption) ?_
    simp only [Act.put, List.setIfInBounds_toArray, List.set_cons_zero, List.set_cons_succ]
    refine wpAnyH_take (i := 22) (oi := { dst := some 27, op := Op.pick (Operand.tmp 14) (Operand.const (Value.bool true)) (Operand.tmp 26), type := 4, pos := _, after := _, guard := some (5, true) }) (v := .bool true) rfl (by kernel_rfl) (by kernel_rfl) (by kernel_rfl) (fun _ _ _ h => h) (Or.inl ⟨by rfl, fun w' _ => ?_⟩) (by assumption) ?_
    · go_simp
    simp only [Act.put, List.setIfInBounds_toArray, List.set_cons_zero, List.set_cons_succ]
    refine wpAnyH_take (i := 23) (oi := { dst := some 28, op := Op.pick (Operand.tmp 10) (Operand.tmp 27) (Operand.const (Value.bool false)), type := 4, pos := _, after := _, guard := none }) (v := .bool true) rfl (by kernel_rfl) (by kernel_rfl) (by kernel_rfl) (fun _ _ _ h => h) (Or.inl ⟨by rfl, fun w' _ => ?_⟩) (by assumption) ?_
    · go_simp
    simp only [Act.put, List.setIfInBounds_toArray, List.set_cons_zero, List.set_cons_succ]
    refine wpAnyH_take (i := 24) (oi := { dst := some 4, op := Op.assign (Operand.tmp 28), type := 4, pos := _, after := _, guard := none }) (v := .bool true) rfl (by kernel_rfl) (by kernel_rfl) (by kernel_rfl) (fun _ _ _ h => h) (Or.inl ⟨by rfl, fun w' _ => ?_⟩) (by assumption) ?_
    · go_simp
    simp only [Act.put, List.setIfInBounds_toArray, List.set_cons_zero, List.set_cons_succ]
    refine wpAnyH_done (by kernel_rfl) ?_ _
    have HI := Lib.hid hi6.bel
    clear hi6 t0 t1 t2
    go_wp2_with fail
    go_ret
    exact ⟨rfl, HI.out⟩
  · have z0 : ((no : Int) == 0) = false := beq_eq_false_iff_ne.2 (by omega)
    have D15 := Lib.hid (fun (W : World) (h : SmIn08E w W S no a r e w.heap.size) => (reason_err h.env.env (h.er.is h0)).mono fun x w' hx => show x = Ending.returned (.int .i64 r) ∧ SmIn08E w w' S no a r e w.heap.size from ⟨hx.1, h.below hx.2⟩)
    have D16 := Lib.hid (fun (W : World) (h : SmIn08E w W S no a r e w.heap.size) => (at_err h.env.env (h.er.is h0)).mono fun x w' hx => show x = Ending.returned (.int .i64 a) ∧ SmIn08E w w' S no a r e w.heap.size from ⟨hx.1, h.below hx.2⟩)
    clear he hE hb0
    go_enter Tryz.func9, Tryz.ntmps9
    go_wp2_with fail
    go_region_held3 (fun W => W.cell? ⟨w.heap.size, 0, none⟩ = some (.int .i64 no) ∧ W.cell? ⟨w.heap.size, 1, none⟩ = some (.int .i64 r) ∧ W.cell? ⟨w.heap.size, 2, none⟩ = some (.int .i64 a))
      (first | assumption | (exact KT.out _ (by assumption)) | (exact KT.out _ (SmIn08E.drewN (by assumption) 1)))
      (first
      | (go_at_call 15; (with_reducible refine (D14.out _ ?_).mono ?_); (first | assumption | exact SmIn08E.drewN (by assumption) 1); rintro x w6 ⟨rfl, hi6⟩)
      | (go_at_call 19; (with_reducible refine (D15.out _ ?_).mono ?_); (first | assumption | exact SmIn08E.drewN (by assumption) 1); rintro x w7 ⟨rfl, hi7⟩)
      | (go_at_call 20; (with_reducible refine (D16.out _ ?_).mono ?_); (first | assumption | exact SmIn08E.drewN (by assumption) 1); rintro x w8 ⟨rfl, hi8⟩))
    have HI := Lib.hid hi8.bel
    clear hi6 hi7 hi8 t0 t1 t2
    go_wp2_with fail
    go_ret
    exact ⟨rfl, HI.out⟩
end Go.Proofs.YtfkimpcaokgldaaGreatDoor
namespace Go.Proofs.YtfkimpcaokgldaaGreatDoor
set_option maxRecDepth 100000
open Go.ChangeShapes Go.WideShapes Go.RowKit Go.Deep Go.Extern.Stop Go.Stop Go.Extern
def awK : Pk := ⟨1, 0, 0, [], true, 60, ⟨#[99]⟩, true, ⟨#[119]⟩, ⟨#[120]⟩, 1, false, [], false, ⟨#[]⟩, false, ⟨#[]⟩, false, ⟨#[]⟩, ⟨#[]⟩, 0, false, false, [], [], []⟩
theorem aw08_e : enK awK = ⟨e00, 16, ⟨#[0, 4, 77, 81, 84, 84, 5, 14, 0, 60, 0, 0, 1, 99, 0, 0, 1, 119, 0, 1, 120]⟩⟩ := by kernel_rfl
theorem aw08_d : dcK 16 ⟨#[0, 4, 77, 81, 84, 84, 5, 14, 0, 60, 0, 0, 1, 99, 0, 0, 1, 119, 0, 1, 120]⟩ = (e00, awK) := by kernel_rfl
theorem aw08_h : dcK 16 ⟨#[0, 4, 77, 81, 84, 84, 4, 0]⟩ = (⟨3, 132, 6⟩, pk0) := by kernel_rfl
theorem smK_aw : SmK awK := ⟨small_of8 (fun p hp => by cases hp) (by decide) (by decide), small_of8 (fun p hp => by cases hp) (by decide) (by decide), by decide, by decide, by decide, by decide, by decide⟩
theorem okK_aw : SmOk awK := ⟨rfl, Nat.zero_le _, Nat.zero_le _, Nat.zero_le _, Nat.zero_le _⟩
theorem pkK_aw {w : World} {B : Nat} : PkIn w B pa0 awK := ⟨PIn.nil _ _ _, Nat.le_refl _, PIn.nil _ _ _, Nat.le_refl _, CIn.nil _ _ _ _, CIn.nil _ _ _ _, CIn.nil _ _ _ _⟩
section
variable {w w' : World} {S : Nat → Addr}
set_option maxHeartbeats 8000000 in
theorem awake08 (hE : Env w S) : Calls Tryz.prog 6 #[] w fun x w' => x = .returned (.bool true) ∧ Below w.heap.size w w' := by
  have HE := Lib.hid hE
  obtain ⟨z, hz⟩ : ∃ z, z = pk0.cells pa0 := ⟨_, rfl⟩
  have HZ := Lib.hid hz
  have HZS := Lib.hid (show z.size = 26 by rw [hz]; rfl)
  obtain ⟨c1, hc1⟩ : ∃ c, c = awK.cells pa0 := ⟨_, rfl⟩
  have HC1 := Lib.hid hc1
  have HS1 := Lib.hid (show c1.size = 26 by rw [hc1]; rfl)
  have HO1 := Lib.hid (show c1.all (·.oneCell') = true by rw [hc1]; exact pk_one _ _)
  have b1 : Below w.heap.size w (w.alloc (.cells c1 29)) := (Below.refl _ _).alloc (Nat.le_refl _) _
  obtain ⟨W1, hW1⟩ : ∃ W, W = w.alloc (.cells c1 29) := ⟨_, rfl⟩
  rw [← hW1] at b1
  have hp1 : PkIn W1 W1.heap.size pa0 awK := pkK_aw
  have hen := enc08 (p := awK) (A := pa0) (hE.later b1) hp1 smK_aw
  rw [aw08_e, show awK.agg pa0 = .agg c1 from by rw [hc1]; rfl] at hen
  have HEN := Lib.hid hen
  have HB1 := Lib.hid b1
  have HW1 := Lib.hid hW1
  have K1 := Lib.hid (show Blk W1 w.heap.size 29 c1 from by rw [hW1]; exact Blk.made w 29 c1)
  clear hE hz hc1 b1 hen hW1 hp1
  go_enter Tryz.func6, Tryz.ntmps6
  go_wp2_with (first | refine wpk_alloc HZ.out rfl rfl ?_ | refine wpk_store_new HZS.out (c := c1) HS1.out HO1.out _ _ rfl rfl rfl (by rw [HC1.out]; rfl) ?_ | refine wpk_load (Blk.made w 29 c1) HS1.out _ rfl rfl rfl ?_)
  rw [← HW1.out]
  refine HEN.out.mono ?_
  rintro x w2 ⟨e2, rfl, he2, hb2⟩
  obtain rfl := err_zero8 he2 rfl
  simp only
  obtain ⟨W2, hW2⟩ : ∃ W, W = w2.alloc (.cells #[.int .i64 16, .string ⟨#[0, 4, 77, 81, 84, 84, 5, 14, 0, 60, 0, 0, 1, 99, 0, 0, 1, 119, 0, 1, 120]⟩] 33) := ⟨_, rfl⟩
  have hb2' : Below w2.heap.size w2 W2 := by rw [hW2]; exact (Below.refl _ _).alloc (Nat.le_refl _) _
  have HB2 := Lib.hid ((HB1.out.trans (hb2.mono HB1.out.size)).trans (hb2'.mono (HB1.out.trans (hb2.mono HB1.out.size)).size))
  have K12 := Lib.hid ((K1.out.below hb2 K1.out.lt).below hb2' (K1.out.below hb2 K1.out.lt).lt)
  have K22 := Lib.hid (show Blk W2 w2.heap.size 33 #[.int .i64 16, .string ⟨#[0, 4, 77, 81, 84, 84, 5, 14, 0, 60, 0, 0, 1, 99, 0, 0, 1, 119, 0, 1, 120]⟩] from by rw [hW2]; exact Blk.made _ _ _)
  have hde := dec08 (HE.out.later HB2.out) (s := ⟨#[0, 4, 77, 81, 84, 84, 5, 14, 0, 60, 0, 0, 1, 99, 0, 0, 1, 119, 0, 1, 120]⟩) 16 (by decide)
  rw [aw08_d] at hde
  have HDE := Lib.hid hde
  have HW2 := Lib.hid hW2
  clear hb2 hb2' hde hW2 HEN HB1 K1
  go_wp2_with fail
  rw [← HW2.out]
  refine HDE.out.mono ?_
  rintro x w3 ⟨A3, e3, rfl, hp3, he3, hb3⟩
  obtain rfl := err_zero8 he3 rfl
  simp only at hp3 ⊢
  obtain ⟨c3, hc3⟩ : ∃ c, c = awK.cells A3 := ⟨_, rfl⟩
  rw [show awK.agg A3 = .agg c3 from by rw [hc3]; rfl]
  have HC3 := Lib.hid hc3
  have HS3 := Lib.hid (show c3.size = 26 by rw [hc3]; rfl)
  have HO3 := Lib.hid (show c3.all (·.oneCell') = true by rw [hc3]; exact pk_one _ _)
  obtain ⟨W3, hW3⟩ : ∃ W, W = w3.alloc (.cells c3 29) := ⟨_, rfl⟩
  have hb3' : Below w3.heap.size w3 W3 := by rw [hW3]; exact (Below.refl _ _).alloc (Nat.le_refl _) _
  have HB3 := Lib.hid ((HB2.out.trans (hb3.mono HB2.out.size)).trans (hb3'.mono (HB2.out.trans (hb3.mono HB2.out.size)).size))
  have K13 := Lib.hid ((K12.out.below hb3 K12.out.lt).below hb3' (K12.out.below hb3 K12.out.lt).lt)
  have K23 := Lib.hid ((K22.out.below hb3 K22.out.lt).below hb3' (K22.out.below hb3 K22.out.lt).lt)
  have K33 := Lib.hid (show Blk W3 w3.heap.size 29 c3 from by rw [hW3]; exact Blk.made _ _ _)
  have P3 := Lib.hid (hp3.below hb3')
  have hde := dec08 (HE.out.later HB3.out) (s := ⟨#[0, 4, 77, 81, 84, 84, 4, 0]⟩) 16 (by decide)
  rw [aw08_h] at hde
  have HDE := Lib.hid hde
  have HW3 := Lib.hid hW3
  clear hb3 hb3' hde hW3 hp3 HB2 K12 K22 hc3
  go_wp2_with (first | refine wpk_alloc HZ.out rfl rfl ?_ | refine wpk_store_new HZS.out (c := c3) HS3.out HO3.out _ _ rfl rfl rfl rfl ?_)
  rw [← HW3.out]
  refine HDE.out.mono ?_
  rintro x w5 ⟨A5, e5, rfl, hp5, he5, hb5⟩
  obtain ⟨t5, u5, rfl⟩ := err_iface he5 (show (3 : Nat) ≠ 0 by decide)
  simp only at he5 ⊢
  obtain ⟨c5, hc5⟩ : ∃ c, c = pk0.cells A5 := ⟨_, rfl⟩
  rw [show pk0.agg A5 = .agg c5 from by rw [hc5]; rfl]
  have HS5 := Lib.hid (show c5.size = 26 by rw [hc5]; rfl)
  have HO5 := Lib.hid (show c5.all (·.oneCell') = true by rw [hc5]; exact pk_one _ _)
  obtain ⟨W5, hW5⟩ : ∃ W, W = w5.alloc (.cells c5 29) := ⟨_, rfl⟩
  have hb5' : Below w5.heap.size w5 W5 := by rw [hW5]; exact (Below.refl _ _).alloc (Nat.le_refl _) _
  have HB5 := Lib.hid ((HB3.out.trans (hb5.mono HB3.out.size)).trans (hb5'.mono (HB3.out.trans (hb5.mono HB3.out.size)).size))
  have K15 := Lib.hid ((K13.out.below hb5 K13.out.lt).below hb5' (K13.out.below hb5 K13.out.lt).lt)
  have k25 := (K23.out.below hb5 K23.out.lt).below hb5' (K23.out.below hb5 K23.out.lt).lt
  have K35 := Lib.hid ((K33.out.below hb5 K33.out.lt).below hb5' (K33.out.below hb5 K33.out.lt).lt)
  have P5 := Lib.hid ((P3.out.below hb5).below hb5')
  have E5 := Lib.hid (he5.later hb5')
  have f0 : (w5.alloc (.cells c5 29)).cell? ⟨w2.heap.size, 0, none⟩ = some (.int .i64 16) := by rw [← hW5]; exact k25.cell 0
  have f1 : (w5.alloc (.cells c5 29)).cell? ⟨w2.heap.size, 1, none⟩ = some (.string ⟨#[0, 4, 77, 81, 84, 84, 5, 14, 0, 60, 0, 0, 1, 99, 0, 0, 1, 119, 0, 1, 120]⟩) := by rw [← hW5]; exact k25.cell 1
  have KX3 := Lib.hid (show Blk (w5.alloc (.cells c5 29)) w3.heap.size 29 c3 from by rw [← hW5]; exact K35.out)
  have KX1 := Lib.hid (show Blk (w5.alloc (.cells c5 29)) w.heap.size 29 c1 from by rw [← hW5]; exact K15.out)
  have hsm := same_ok (p := awK) (A2 := pa0) P5.out (pkK_aw : PkIn W5 W5.heap.size pa0 awK) okK_aw
  rw [show awK.agg A3 = .agg c3 from by rw [HC3.out]; rfl, show awK.agg pa0 = .agg c1 from by rw [HC1.out]; rfl] at hsm
  have HSM := Lib.hid hsm
  have HW5 := Lib.hid hW5
  clear hb5 hb5' hW5 hp5 he5 HB3 K13 K23 K33 P3 hc5 k25 hsm HDE
  go_wp2_with (first | refine wpk_alloc HZ.out rfl rfl ?_ | refine wpk_store_new HZS.out (c := c5) HS5.out HO5.out _ _ rfl rfl rfl rfl ?_ | refine wpk_load_g KX3.out HS3.out _ rfl rfl rfl ?_ | refine wpk_load_g KX1.out HS1.out _ rfl rfl rfl ?_)
  rw [← HW5.out]
  refine HSM.out.mono ?_
  rintro x w6 ⟨rfl, hb6⟩
  have HB6 := Lib.hid (HB5.out.trans (hb6.mono HB5.out.size))
  have HNO := Lib.hid (reason_err (HE.out.later HB6.out) ((E5.out.later hb6).is (show (3 : Nat) ≠ 0 by decide)))
  have E6 := Lib.hid (E5.out.later hb6)
  clear hb6 f0 f1 HSM
  go_wp2_with fail
  refine HNO.out.mono ?_
  rintro x w6' ⟨rfl, hb6⟩
  have HB6' := Lib.hid (HB6.out.trans (hb6.mono HB6.out.size))
  have HAT := Lib.hid (at_err (HE.out.later HB6'.out) ((E6.out.later hb6).is (show (3 : Nat) ≠ 0 by decide)))
  clear hb6 HNO
  go_wp2_with fail
  refine HAT.out.mono ?_
  rintro x w7 ⟨rfl, hb7⟩
  have HB7 := Lib.hid (HB6'.out.trans (hb7.mono HB6'.out.size))
  clear hb7 HAT
  go_wp2_with fail
  go_ret
  exact ⟨rfl, HB7.out⟩
end
end Go.Proofs.YtfkimpcaokgldaaGreatDoor
