/- What is proved here: FrameFirst answers true for every number and text. Condition: what the rows list of the package's variables. -/
import Derived.Test.YtfojoeafhdiaiaaDoorAwk07
namespace Go.Proofs.YtfojoeafhdiaiaaDoor
set_option maxRecDepth 100000
open Go.RowKit Go.Extern.Stop Go.Stop Go.Extern
section
variable {w : World} {S : Nat → Addr}
theorem mayI_nat {n : Int} (h : mayI n = true) : ∃ c : Nat, n = c := by
  refine ⟨n.toNat, ?_⟩
  unfold mayI at h
  simp only [Bool.and_eq_true, decide_eq_true_eq] at h
  omega
set_option maxHeartbeats 2000000 in
/-- Where the packet may begin so. -/
theorem first_ok (S : Nat → Addr) (c : Nat) (body : ByteArray) (w : World) (hE : Env w S) (hs : body.size ≤ 200) (hc : mayI (c : Int) = true) :
    Calls Tryd.prog 6 #[.int .i64 c, .string body] w fun x w' => x = .returned (.bool true) ∧ Below w.heap.size w w' := by
  have HC := Lib.hid hc
  have HE := Lib.hid hE
  have HP := Lib.hid (fun W : World => fput_ok c body hc (by omega) W)
  have HR := Lib.hid (fun W : World => rput_ok c body hc (by omega) W)
  have hs' : (body.size : Int) ≤ 200 := by omega
  clear hE hc
  generalize (⟨(encF c body).toArray⟩ : ByteArray) = enc at *
  go_enter Tryd.func6, Tryd.ntmps6
  go_wp2_with fail
  refine (HP.out _).mono ?_
  rintro x w1 ⟨rfl, hb1⟩
  have HB1 := Lib.hid hb1
  clear hb1
  go_wp2_with fail
  refine (HR.out _).mono ?_
  rintro x w2 ⟨rfl, hb2⟩
  have HB2 := Lib.hid (HB1.out.trans (hb2.mono HB1.out.size))
  have HX2 : Hid (ErrOf w2 S 0 0 0 .nilIface) := Lib.hid ErrOf.none
  clear hb2
  have hb3 : Below w2.heap.size w2 (w2.alloc (.cells #[.int .i64 0, .int .i64 0, .int .i64 0] 63)) := (Below.refl _ _).alloc (Nat.le_refl _) _
  have hi0 : SmIn w (w2.alloc (.cells #[.int .i64 0, .int .i64 0, .int .i64 0] 63)) S 0 0 0 .nilIface w2.heap.size := ⟨HX2.out.later hb3, (HE.out.later HB2.out).later hb3, Blk.made w2 _ _, HB2.out.trans (hb3.mono HB2.out.size)⟩
  have KT := Lib.hid (fun (W : World) (h : SmIn w W S 0 0 0 .nilIface w2.heap.size) => show W.cell? ⟨w2.heap.size, 0, none⟩ = some (.int .i64 0) ∧ W.cell? ⟨w2.heap.size, 1, none⟩ = some (.int .i64 0) ∧ W.cell? ⟨w2.heap.size, 2, none⟩ = some (.int .i64 0) from ⟨h.box.cell 0, h.box.cell 1, h.box.cell 2⟩)
  have D33 := Lib.hid (fun (W : World) (h : SmIn w W S 0 0 0 .nilIface w2.heap.size) => show Calls Tryd.prog 33 #[.nilIface, .agg #[.int .i64 0, .int .i64 0, .int .i64 0]] W (fun x w' => x = .returned (.bool true) ∧ SmIn w w' S 0 0 0 .nilIface w2.heap.size) from (same07 S 0 0 0 .nilIface W h.env h.er).mono fun x w' hx => ⟨hx.1, h.below hx.2⟩)
  have D34 := Lib.hid (fun (W : World) (h : SmIn w W S 0 0 0 .nilIface w2.heap.size) => show Calls Tryd.prog 34 #[.int .i64 c] W (fun x w' => x = .returned .nilIface ∧ SmIn w w' S 0 0 0 .nilIface w2.heap.size) from (chk_ok c HC.out W).mono fun x w' hx => ⟨hx.1, hx.2 ▸ h⟩)
  have D35 := Lib.hid (fun (W : World) (h : SmIn w W S 0 0 0 .nilIface w2.heap.size) => show Calls Tryd.prog 35 #[.int .i64 c] W (fun x w' => x = .returned (.bool true) ∧ SmIn w w' S 0 0 0 .nilIface w2.heap.size) from (rmay_any c W).mono fun x w' hx => ⟨by rw [hx.1, HC.out], hx.2 ▸ h⟩)
  have D30 := Lib.hid (fun (W : World) (h : SmIn w W S 0 0 0 .nilIface w2.heap.size) => show Calls Tryd.prog 30 #[] W (fun x w' => x = .returned (.bool true) ∧ SmIn w w' S 0 0 0 .nilIface w2.heap.size) from (awake07 h.env).mono fun x w' hx => ⟨hx.1, h.below hx.2⟩)
  obtain ⟨t0, t1, t2⟩ := KT.out _ hi0
  clear hb3 HP HR HX2 HB1
  go_wp2_with fail
  go_region_held3 (fun W => W.cell? ⟨w2.heap.size, 0, none⟩ = some (.int .i64 0) ∧ W.cell? ⟨w2.heap.size, 1, none⟩ = some (.int .i64 0) ∧ W.cell? ⟨w2.heap.size, 2, none⟩ = some (.int .i64 0))
    (first | assumption | (exact KT.out _ (by assumption)) | (exact KT.out _ (SmIn.drewN (by assumption) 1)))
    (first
    | (go_at_call 33; (with_reducible refine (D33.out _ ?_).mono ?_); (first | assumption | exact SmIn.drewN (by assumption) 1); rintro x w6 ⟨rfl, hi6⟩)
    | (go_at_call 34; (with_reducible refine (D34.out _ ?_).mono ?_); (first | assumption | exact SmIn.drewN (by assumption) 1); rintro x w7 ⟨rfl, hi7⟩)
    | (go_at_call 35; (with_reducible refine (D35.out _ ?_).mono ?_); (first | assumption | exact SmIn.drewN (by assumption) 1); rintro x w8 ⟨rfl, hi8⟩)
    | (go_at_call 30; (with_reducible refine (D30.out _ ?_).mono ?_); (first | assumption | exact SmIn.drewN (by assumption) 1); rintro x w9 ⟨rfl, hi9⟩))
  have HI9 := Lib.hid hi9.bel
  clear hi9 t0 t1 t2
  go_wp2_with fail
  go_ret
  exact ⟨rfl, HI9.out⟩
set_option maxHeartbeats 2000000 in
/-- Where the packet may not begin so. -/
theorem first_bad (S : Nat → Addr) (c : Int) (body : ByteArray) (w : World) (hE : Env w S) (hs : body.size ≤ 200) (hc : mayI c = false) :
    Calls Tryd.prog 6 #[.int .i64 c, .string body] w fun x w' => x = .returned (.bool true) ∧ Below w.heap.size w w' := by
  have HC := Lib.hid hc
  have HE := Lib.hid hE
  have HP := Lib.hid (fput_bad S c body hc w hE)
  have HR := Lib.hid (fun W : World => rput_bad c body hc W)
  have hs' : (body.size : Int) ≤ 200 := by omega
  clear hE hc
  go_enter Tryd.func6, Tryd.ntmps6
  go_wp2_with fail
  refine HP.out.mono ?_
  rintro x w1 ⟨e, rfl, he1, hb1⟩
  have HB1 := Lib.hid hb1
  have HX1 := Lib.hid he1
  clear hb1 he1
  go_wp2_with fail
  refine (HR.out _).mono ?_
  rintro x w2 ⟨rfl, hb2⟩
  have HB2 := Lib.hid (HB1.out.trans (hb2.mono HB1.out.size))
  have HX2 : Hid (ErrOf w2 S 129 2 0 e) := Lib.hid (HX1.out.later hb2)
  clear hb2
  have hb3 : Below w2.heap.size w2 (w2.alloc (.cells #[.int .i64 2, .int .i64 129, .int .i64 0] 63)) := (Below.refl _ _).alloc (Nat.le_refl _) _
  have hi0 : SmIn w (w2.alloc (.cells #[.int .i64 2, .int .i64 129, .int .i64 0] 63)) S 2 0 129 e w2.heap.size := ⟨HX2.out.later hb3, (HE.out.later HB2.out).later hb3, Blk.made w2 _ _, HB2.out.trans (hb3.mono HB2.out.size)⟩
  have KT := Lib.hid (fun (W : World) (h : SmIn w W S 2 0 129 e w2.heap.size) => show W.cell? ⟨w2.heap.size, 0, none⟩ = some (.int .i64 2) ∧ W.cell? ⟨w2.heap.size, 1, none⟩ = some (.int .i64 129) ∧ W.cell? ⟨w2.heap.size, 2, none⟩ = some (.int .i64 0) from ⟨h.box.cell 0, h.box.cell 1, h.box.cell 2⟩)
  have D33 := Lib.hid (fun (W : World) (h : SmIn w W S 2 0 129 e w2.heap.size) => show Calls Tryd.prog 33 #[e, .agg #[.int .i64 2, .int .i64 129, .int .i64 0]] W (fun x w' => x = .returned (.bool true) ∧ SmIn w w' S 2 0 129 e w2.heap.size) from (same07 S 2 0 129 e W h.env h.er).mono fun x w' hx => ⟨hx.1, h.below hx.2⟩)
  have D34 := Lib.hid (fun (W : World) (h : SmIn w W S 2 0 129 e w2.heap.size) => show Calls Tryd.prog 34 #[.int .i64 c] W (fun x w' => ∃ t u, x = .returned (.iface t u) ∧ SmIn w w' S 2 0 129 e w2.heap.size) from (chk_bad S c HC.out W h.env).mono fun x w' hx => by
      obtain ⟨e1, rfl, he, hb⟩ := hx
      obtain ⟨t, u, rfl⟩ := err_iface he (by decide)
      exact ⟨t, u, rfl, h.below hb⟩)
  have D35 := Lib.hid (fun (W : World) (h : SmIn w W S 2 0 129 e w2.heap.size) => show Calls Tryd.prog 35 #[.int .i64 c] W (fun x w' => x = .returned (.bool false) ∧ SmIn w w' S 2 0 129 e w2.heap.size) from (rmay_any c W).mono fun x w' hx => ⟨by rw [hx.1, HC.out], hx.2 ▸ h⟩)
  have D30 := Lib.hid (fun (W : World) (h : SmIn w W S 2 0 129 e w2.heap.size) => show Calls Tryd.prog 30 #[] W (fun x w' => x = .returned (.bool true) ∧ SmIn w w' S 2 0 129 e w2.heap.size) from (awake07 h.env).mono fun x w' hx => ⟨hx.1, h.below hx.2⟩)
  obtain ⟨t0, t1, t2⟩ := KT.out _ hi0
  clear hb3 HP HR HX2 HB1 HX1
  go_wp2_with fail
  go_region_held3 (fun W => W.cell? ⟨w2.heap.size, 0, none⟩ = some (.int .i64 2) ∧ W.cell? ⟨w2.heap.size, 1, none⟩ = some (.int .i64 129) ∧ W.cell? ⟨w2.heap.size, 2, none⟩ = some (.int .i64 0))
    (first | assumption | (exact KT.out _ (by assumption)) | (exact KT.out _ (SmIn.drewN (by assumption) 1)))
    (first
    | (go_at_call 33; (with_reducible refine (D33.out _ ?_).mono ?_); (first | assumption | exact SmIn.drewN (by assumption) 1); rintro x w6 ⟨rfl, hi6⟩)
    | (go_at_call 34; (with_reducible refine (D34.out _ ?_).mono ?_); (first | assumption | exact SmIn.drewN (by assumption) 1); rintro x w7 ⟨t7, u7, rfl, hi7⟩)
    | (go_at_call 35; (with_reducible refine (D35.out _ ?_).mono ?_); (first | assumption | exact SmIn.drewN (by assumption) 1); rintro x w8 ⟨rfl, hi8⟩)
    | (go_at_call 30; (with_reducible refine (D30.out _ ?_).mono ?_); (first | assumption | exact SmIn.drewN (by assumption) 1); rintro x w9 ⟨rfl, hi9⟩))
  have HI9 := Lib.hid hi9.bel
  clear hi9 t0 t1 t2
  go_wp2_with fail
  go_ret
  exact ⟨rfl, HI9.out⟩
theorem frameFirst_walk (S : Nat → Addr) (n : Int) (body : ByteArray) (w : World) (hE : Env w S) (_hn : (Lit.int .i64 n).wf = true) (_hb : body.size ≤ maxLen) :
    Calls Tryd.prog 6 #[.int .i64 n, .string body] w fun x w' => x = .returned (.bool true) ∧ Below w.heap.size w w' := by
  by_cases hs : body.size ≤ 200
  · cases hc : mayI n
    · exact first_bad S n body w hE hs hc
    · obtain ⟨c, rfl⟩ := mayI_nat hc
      exact first_ok S c body w hE hs hc
  · have hs' : (200 : Int) < (body.size : Int) := by omega
    have HE := Lib.hid hE
    clear hE hs _hb
    go_enter Tryd.func6, Tryd.ntmps6
    go_wp2_with fail
    refine (awake07 HE.out).mono ?_
    rintro x w2 ⟨rfl, hb⟩
    go_wp2
    go_ret
    exact ⟨rfl, hb⟩
end
end Go.Proofs.YtfojoeafhdiaiaaDoor
