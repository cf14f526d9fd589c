/- What is proved here: what the statements of layer 7 hold awake. Condition: what the rows list of the package's variables. -/
import Derived.Test.YtfojoeafhdiaiaaDoorPkt07
namespace Go.Proofs.YtfojoeafhdiaiaaDoor
set_option maxRecDepth 100000
open Go.RowKit Go.Extern.Stop Go.Stop Go.Extern
section
variable {w w' w2 : World} {S : Nat → Addr} {B g p p' : Nat} {v v' v2 : Value} {V V' V2 : SV} {X : List Nat} {L L' : List UInt8}
/-- An answer is put into a new block of its own. -/
theorem SObj.put_box (h : SObj w S B g v L p V) (a b : Value) :
    SObj (w.alloc (.cells #[a, b] 61)) S B g v L p V ∧ Below w.heap.size w (w.alloc (.cells #[a, b] 61)) ∧ Blk (w.alloc (.cells #[a, b] 61)) w.heap.size 61 #[a, b] := by
  have hb := (Below.refl w.heap.size w).alloc (Nat.le_refl _) (.cells #[a, b] 61)
  exact ⟨h.below hb, hb, Blk.made w _ _⟩
end
section
variable {w : World} {S : Nat → Addr}
theorem aw7_h1 : headF 100 [192] = ⟨0, 0, 0, 129, 0⟩ := by rfl
theorem aw7_h2 : headF 100 [192, 0, 0] = ⟨2, 2, 0, 129, 0⟩ := by rfl
theorem aw7_h3 : headF 100 [0] = ⟨0, 0, 2, 129, 0⟩ := by rfl
theorem aw7_put : (⟨(encF 192 ⟨#[]⟩).toArray⟩ : ByteArray) = ⟨#[192, 0]⟩ := by
  unfold encF
  rw [show (⟨#[]⟩ : ByteArray).size = 0 from rfl]
  unfold vb
  rfl
set_option maxHeartbeats 1000000 in
theorem awake07 (hE : Env w S) : Calls Tryd.prog 30 #[] w fun x w' => x = .returned (.bool true) ∧ Below w.heap.size w w' := by
  have HE := Lib.hid hE
  have hm := SObj.made w S 100 (Nat.le_refl w.heap.size)
  have hb0 : Below w.heap.size w (w.alloc (.cells #[.int .i64 100, .slice none 0 0, .int .i64 0, .nilIface, .int .i64 0] 121)) := (Below.refl _ _).alloc (Nat.le_refl _) _
  have h1 := feed_ok hm rfl ⟨#[192]⟩ (by decide) (by decide)
  have H1 := Lib.hid (show Calls Tryd.prog 38 _ _ (FSays _ S w.heap.size w.heap.size (.slice none 0 0) 1 ⟨100, [192], 0, 0, 0, 0⟩) from h1)
  have HM := Lib.hid hm
  have HB0 := Lib.hid hb0
  clear h1 hm hb0 hE
  go_enter Tryd.func30, Tryd.ntmps30
  go_wp2_with fail
  refine (snew_any 100 w).mono ?_
  rintro x w0 ⟨rfl, rfl⟩
  go_wp2_with fail
  refine H1.out.mono ?_
  rintro x w1 ⟨rfl, v1, L1, p1, hN1, hl1⟩
  have HB1 := Lib.hid (hN1.later HM.out HB0.out)
  have h2 := next_none (HE.out.later HB1.out) hN1.obj rfl (by omega) _ aw7_h1 rfl (.inl rfl)
  have H2 := Lib.hid h2
  have HN1 := Lib.hid hN1.obj
  clear h2 hN1 H1 HM HB0
  go_wp2_with fail
  refine H2.out.mono ?_
  rintro x w2 ⟨e2, rfl, he2, v2, L2, p2, hN2, hl2⟩
  obtain rfl : e2 = .nilIface := he2
  rw [show fr0 = .agg #[.int .i64 0, .string ⟨#[]⟩] from rfl]
  have HB2 := Lib.hid (hN2.later HN1.out HB1.out)
  obtain ⟨ho3, hb3, hx3⟩ := hN2.obj.put_box (.int .i64 0) (.string ⟨#[]⟩)
  have HB3 := Lib.hid (HB2.out.trans (hb3.mono HB2.out.size))
  have h3 := feed_ok ho3 rfl ⟨#[0, 0]⟩ (by decide) (by omega)
  have H3 := Lib.hid (show Calls Tryd.prog 38 _ _ (FSays _ S w.heap.size w.heap.size v2 (L2.length + 2) ⟨100, [192, 0, 0], 0, 0, 0, 0⟩) from h3)
  have HN3 := Lib.hid ho3
  clear h3 hN2 H2 hb3 hx3 ho3 HN1
  go_wp2_with fail
  refine H3.out.mono ?_
  rintro x w4 ⟨rfl, v4, L4, p4, hN4, hl4⟩
  have HB4 := Lib.hid (hN4.later HN3.out HB3.out)
  have h5 := next_some (HE.out.later HB4.out) hN4.obj rfl (by omega) _ aw7_h2 rfl (by decide) (by decide)
  have H5 := Lib.hid (show Calls Tryd.prog 43 _ _ (PkSays _ S w.heap.size w.heap.size v4 L4.length 192 [] ⟨100, [0], 0, 0, 0, 0⟩) from h5)
  have HN4 := Lib.hid hN4.obj
  clear h5 hN4 H3 HN3
  go_wp2_with fail
  refine H5.out.mono ?_
  rintro x w5 ⟨rfl, v5, L5, p5, hN5, hl5⟩
  rw [show frV 192 [] = .agg #[.int .i64 192, .string ⟨#[]⟩] from rfl]
  have HB5 := Lib.hid (hN5.later HN4.out HB4.out)
  obtain ⟨ho6, hb6, hx6⟩ := hN5.obj.put_box (.int .i64 192) (.string ⟨#[]⟩)
  have HB6 := Lib.hid (HB5.out.trans (hb6.mono HB5.out.size))
  have h6 := next_bad (HE.out.later HB6.out) ho6 rfl (by omega) _ aw7_h3 (by decide)
  have H6 := Lib.hid (show Calls Tryd.prog 43 _ _ (NoSays _ S w.heap.size w.heap.size v5 0 ⟨100, [0], 2, 129, 0, 1⟩) from h6)
  have HN6 := Lib.hid ho6
  have HX6 := Lib.hid hx6
  clear h6 hN5 H5 HN4 hb6 hx6 ho6
  have HG5 := Lib.hid (show w.heap.size ≤ w5.heap.size from HB5.out.size)
  have hne5 : Hid (w.heap.size ≠ w5.heap.size) := Lib.hid (by
    obtain ⟨e, hb, _⟩ := HN6.out.blk
    exact hb.other HX6.out (by decide))
  have hne7 : Hid (v5.ownBlock ≠ some w5.heap.size) := Lib.hid (fun hk => by
    obtain ⟨_, _, cs, hh⟩ := HN6.out.row.lt _ hk
    exact HX6.out.other hh (by decide) rfl)
  go_wp2_with fail
  refine H6.out.mono ?_
  rintro x w7 ⟨e7, rfl, he7, v7, L7, p7, hN7, hl7⟩
  rw [show fr0 = .agg #[.int .i64 0, .string ⟨#[]⟩] from rfl]
  have HB7 := Lib.hid (hN7.later HN6.out HB6.out)
  have HX7 := Lib.hid (HX6.out.fr hN7.fr (fun hm => by
    rcases List.mem_cons.1 hm with e | hm
    · exact hne5.out e.symm
    · exact hne7.out (own_list.1 hm)))
  obtain ⟨t7, u7, rfl⟩ := err_iface he7 (by decide)
  obtain ⟨ho8, hb8, hx8⟩ := hN7.obj.put_box (.int .i64 0) (.string ⟨#[]⟩)
  have HB8 := Lib.hid (HB7.out.trans (hb8.mono HB7.out.size))
  have HN8 := Lib.hid ho8
  have HX8 := Lib.hid (HX7.out.below hb8 HX7.out.lt)
  have HR8 := Lib.hid (he7.later hb8)
  clear hN7 H6 HX6 hb8 hx8 ho8 HX7 HN6 he7 hne5 hne7
  go_wp2_with fail
  have H9 := fput_ok 192 ⟨#[]⟩ (by decide) (by decide)
  rw [aw7_put] at H9
  refine (H9 _).mono ?_
  rintro x w9 ⟨rfl, hb9⟩
  have HB9 := Lib.hid (HB8.out.trans (hb9.mono HB8.out.size))
  have HN9 := Lib.hid (HN8.out.below hb9)
  have HR9 := Lib.hid (HR8.out.later hb9)
  have c0 := (HX8.out.below hb9 HX8.out.lt).cell 0
  clear hb9 HN8 HX8 HR8 H9
  go_wp2_with fail
  refine (number_of (HE.out.later HB9.out) HR9.out).mono ?_
  rintro x w10 ⟨rfl, hb10⟩
  have HB10 := Lib.hid (HB9.out.trans (hb10.mono HB9.out.size))
  have HN10 := Lib.hid (HN9.out.below hb10)
  clear hb10 HN9 HR9
  go_wp2_with fail
  refine (chk_bad S 54 (by decide) w10 (HE.out.later HB10.out)).mono ?_
  rintro x w11 ⟨e11, rfl, he11, hb11⟩
  obtain ⟨t11, u11, rfl⟩ := err_iface he11 (by decide)
  have HB11 := Lib.hid (HB10.out.trans (hb11.mono HB10.out.size))
  have HN11 := Lib.hid (HN10.out.below hb11)
  clear hb11 HN10 he11
  go_wp2_with fail
  refine (sleft_any HN11.out (by omega)).mono ?_
  rintro x w12 ⟨rfl, hb12⟩
  have HB12 := Lib.hid (HB11.out.trans (hb12.mono HB11.out.size))
  have e12 : leftV ⟨100, [0], 2, 129, 0, 1⟩ = 1 := rfl
  rw [e12]
  clear hb12
  go_wp2_with fail
  go_ret
  exact ⟨rfl, HB12.out⟩
end
end Go.Proofs.YtfojoeafhdiaiaaDoor
