/- What is proved here: Encode of package connect tells what a plain function says. Conditions: few bytes, the packet's parts stand where it says; what the rows list of the package's variables. -/
import Derived.Test.YtbfbmdjnobdjpaaGreatDoorDec08
import Derived.Test.YtbfbmdjnobdjpaaGreatDoorFra08
import Derived.Test.YtbfbmdjnobdjpaaGreatDoorBrr08
namespace Go.Proofs.YtbfbmdjnobdjpaaGreatDoor
set_option maxRecDepth 100000
open Go.ChangeShapes Go.WideShapes Go.RowKit Go.Deep Go.Extern.Stop Go.Stop Go.Extern
def SmK (p : Pk) : Prop := SmallP p.props ∧ SmallP p.wProps ∧ p.client.size ≤ 65535 ∧ p.wTopic.size ≤ 65535 ∧ p.wPay.size ≤ 65535 ∧ p.user.size ≤ 65535 ∧ p.pass.size ≤ 65535
theorem enK_backS {p : Pk} (h : SmK p) (hno : (enK p).e.no = 0) : dcK (enK p).first (enK p).s = (e00, bareK p) :=
  enK_back (small_mem h.1).1 (small_mem h.1).2 (small_mem h.2.1).1 (small_mem h.2.1).2 (by have := h.2.2.2.2.1; omega) (by have := h.2.2.2.2.2.2; omega) hno
theorem enK_lenS {p : Pk} (h : SmK p) : (enK p).s.size ≤ 462000 := enK_len h.1 h.2.1 h.2.2.1 h.2.2.2.1 h.2.2.2.2.1 h.2.2.2.2.2.1 h.2.2.2.2.2.2
theorem bareK_ok {p : Pk} (h : SmK p) : SmOk (bareK p) := ⟨rfl, by show (plL p.props).length ≤ 1000; rw [plL_len]; exact small_few h.1, by
  show (if p.wHas = true then plL p.wProps else []).length ≤ 1000
  split
  · rw [plL_len]; exact small_few h.2.1
  · exact Nat.zero_le _, Nat.zero_le _, Nat.zero_le _⟩
theorem deK_backS {first : Int} {s : ByteArray} (hss : s.size ≤ 2048) (h : (dcK first s).1.no = 0) : SmK (dcK first s).2 ∧ (enK (dcK first s).2).e.no = 0 ∧ dcK (enK (dcK first s).2).first (enK (dcK first s).2).s = (e00, (dcK first s).2) ∧ SmOk (dcK first s).2 := by
  obtain ⟨⟨h1, h2, h3, h4, h5, h6, h7⟩, h8, h9⟩ := deK_back hss h
  obtain ⟨l1, l2, l3⟩ := dcK_lists first s
  exact ⟨⟨h1, h2, by omega, by omega, by omega, by omega, by omega⟩, h8, h9, l1, small_few h1, small_few h2, by rw [l2]; exact Nat.zero_le _, by rw [l3]; exact Nat.zero_le _⟩
/-- What the encoder holds. -/
structure EnJ (w W : World) (S : Nat → Addr) (c : Array Value) (gW : Nat) (v : Value) (V : EV) : Prop where
  bel : Below w.heap.size w W
  r0 : Blk W w.heap.size 29 c
  r1 : Blk W (w.heap.size + 1) 33 #[.int .i64 0, .string ⟨#[]⟩]
  wo : WObj W S w.heap.size gW v V
section
variable {w W W' : World} {S : Nat → Addr} {c : Array Value} {gW : Nat} {v v' : Value} {V V' : EV}
theorem EnJ.below (h : EnJ w W S c gW v V) (hb : Below W.heap.size W W') : EnJ w W' S c gW v V := ⟨h.bel.trans (hb.mono h.bel.size), h.r0.below hb h.r0.lt, h.r1.below hb h.r1.lt, h.wo.below hb⟩
theorem EnJ.step (h : EnJ w W S c gW v V) (hn : WNext W W' S w.heap.size gW v v' V') : EnJ w W' S c gW v' V' := ⟨hn.later h.wo h.bel, hn.blk h.wo h.r0 (by decide) (by decide), hn.blk h.wo h.r1 (by decide) (by decide), hn.obj⟩
theorem EnJ.get (h : EnJ w W S c gW v V) {i : Nat} {u : Value} (hu : c[i]? = some u) : W.cell? ⟨w.heap.size, i, none⟩ = some u := (h.r0.cell i).trans hu
end
section
variable {w w' : World} {S : Nat → Addr} {A : PkA} {p : Pk} {s : ByteArray}
set_option maxHeartbeats 32000000 in
theorem enc08_bad (hE : Env w S) (_h : PkIn w w.heap.size A p) (_hS : SmK p) (hw : p.wHas = true) (hqq : p.wQos < 0 ∨ 3 < p.wQos) : Calls Tryz.prog 14 #[p.agg A] w (FrSays w S (enK p)) := by
  obtain ⟨q, hq⟩ : ∃ q, q = enK p := ⟨_, rfl⟩
  rw [← hq]
  unfold enK at hq
  have hfl := fun W (hh : p.wHas = true → 0 ≤ p.wQos ∧ p.wQos ≤ 3) => flg08 A p hh W
  obtain ⟨c, hc⟩ : ∃ c, c = p.cells A := ⟨_, rfl⟩
  rw [show p.agg A = .agg c from by rw [hc]; rfl] at hfl ⊢
  have HCS := Lib.hid (show c.size = 26 by rw [hc]; rfl)
  have HC3 := Lib.hid (show c[3]? = some (.slice A.pa p.props.length A.pc) by rw [hc]; rfl)
  have HC5 := Lib.hid (show c[5]? = some (.int .i64 p.keep) by rw [hc]; rfl)
  have HC6 := Lib.hid (show c[6]? = some (.string p.client) by rw [hc]; rfl)
  have HC7 := Lib.hid (show c[7]? = some (.bool p.wHas) by rw [hc]; rfl)
  have HC8 := Lib.hid (show c[8]? = some (.string p.wTopic) by rw [hc]; rfl)
  have HC9 := Lib.hid (show c[9]? = some (.string p.wPay) by rw [hc]; rfl)
  have HC10 := Lib.hid (show c[10]? = some (.int .i64 p.wQos) by rw [hc]; rfl)
  have HC12 := Lib.hid (show c[12]? = some (.slice A.wa p.wProps.length A.wc) by rw [hc]; rfl)
  have HC13 := Lib.hid (show c[13]? = some (.bool p.hasUser) by rw [hc]; rfl)
  have HC14 := Lib.hid (show c[14]? = some (.string p.user) by rw [hc]; rfl)
  have HC15 := Lib.hid (show c[15]? = some (.bool p.hasPass) by rw [hc]; rfl)
  have HC16 := Lib.hid (show c[16]? = some (.string p.pass) by rw [hc]; rfl)
  obtain ⟨W2, hW2⟩ : ∃ W, W = (w.alloc (.cells c 29)).alloc (.cells #[.int .i64 0, .string ⟨#[]⟩] 33) := ⟨_, rfl⟩
  have a1 : Below w.heap.size w (w.alloc (.cells c 29)) := (Below.refl _ _).alloc (Nat.le_refl _) _
  have hb2 : Below w.heap.size w W2 := by rw [hW2]; exact a1.trans (((Below.refl (w.alloc (.cells c 29)).heap.size _).alloc (Nat.le_refl _) (.cells #[.int .i64 0, .string ⟨#[]⟩] 33)).mono a1.size)
  have r0 : Blk W2 w.heap.size 29 c := by
    rw [hW2]; exact (Blk.made w 29 c).alloc (.cells #[.int .i64 0, .string ⟨#[]⟩] 33)
  have r1 : Blk W2 (w.heap.size + 1) 33 #[.int .i64 0, .string ⟨#[]⟩] := by
    have h := Blk.made (w.alloc (.cells c 29)) 33 #[.int .i64 0, .string ⟨#[]⟩]
    rw [World.size_alloc] at h
    rw [hW2]; exact h
  have k7 : W2.cell? ⟨w.heap.size, 7, none⟩ = some (.bool p.wHas) := (r0.cell 7).trans HC7.out
  have k10 : W2.cell? ⟨w.heap.size, 10, none⟩ = some (.int .i64 p.wQos) := (r0.cell 10).trans HC10.out
  have k3 : W2.cell? ⟨w.heap.size, 3, none⟩ = some (.slice A.pa p.props.length A.pc) := (r0.cell 3).trans HC3.out
  have HMF := Lib.hid (mal08 (hE.later hb2) 0)
  rw [if_pos ⟨hw, hqq⟩] at hq
  have HQ2 := Lib.hid hq
  have HW2 := Lib.hid hW2
  have HB2 := Lib.hid hb2
  have R1 := Lib.hid r1
  rw [hW2] at k7 k10
  rw [hw] at k7
  clear hq hc a1 hb2 r0 r1 hE _h _hS hW2 hfl k3 hw HC3 HC5 HC6 HC7 HC8 HC9 HC10 HC12 HC13 HC14 HC15 HC16
  generalize p.wQos = qs at *
  rcases hqq with h1 | h1
  case' inl =>
    go_enter Tryz.func14, Tryz.ntmps14
    go_wp2_with (refine wpk_box HCS.out _ rfl rfl rfl ?_)
  case' inr =>
    have h2 : ¬ qs < 0 := by omega
    go_enter Tryz.func14, Tryz.ntmps14
    go_wp2_with (refine wpk_box HCS.out _ rfl rfl rfl ?_)
  all_goals
    rw [← HW2.out]
    refine HMF.out.mono ?_
    rintro x w3 ⟨e, rfl, he, hb3⟩
    obtain ⟨te, ue, rfl⟩ := err_iface he (by decide)
    have r13 := R1.out.below hb3 R1.out.lt
    have hb := HB2.out.trans (hb3.mono HB2.out.size)
    clear k7 k10
    obtain ⟨⟨z0, z1, y0, y1⟩, ⟨z2, y2⟩, ⟨f0, f1⟩, ferr⟩ := fr_facts (S := S) r13 (.int .i64 0) (.string ⟨#[]⟩)
    have hbf := (hb.setCell (p := ⟨w.heap.size + 1, 0, none⟩) (by show w.heap.size ≤ w.heap.size + 1; omega) (.int .i64 0)).setCell (p := ⟨w.heap.size + 1, 1, none⟩) (by show w.heap.size ≤ w.heap.size + 1; omega) (.string ⟨#[]⟩)
    have HX := Lib.hid (show FrSays w S q (.returned (.tuple #[.agg #[.int .i64 0, .string ⟨#[]⟩], .iface te ue])) _ from by
      rw [HQ2.out]
      exact ⟨_, rfl, ferr _ _ _ _ he, hbf⟩)
    clear ferr hbf he
    go_wp2
    exact bodyPost_ret (v := .tuple #[.agg #[.int .i64 0, .string ⟨#[]⟩], .iface te ue]) (by simp [results, Tryz.results14, go_sem, f0, f1]) rfl HX.out
end
end Go.Proofs.YtbfbmdjnobdjpaaGreatDoor
