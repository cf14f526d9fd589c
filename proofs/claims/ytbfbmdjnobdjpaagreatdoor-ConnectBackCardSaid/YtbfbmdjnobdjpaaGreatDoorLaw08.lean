/- What is proved here: ConnectBack answers true for every packet, first byte and bytes. Condition: what the rows list of the package's variables. -/
import Derived.Test.YtbfbmdjnobdjpaaGreatDoorAwk08
import Derived.Test.YtbfbmdjnobdjpaaGreatDoorFew08
namespace Go.Proofs.YtbfbmdjnobdjpaaGreatDoor
set_option maxRecDepth 100000
open Go.RowKit Go.Extern.Stop Go.Stop Go.Extern
theorem smK_of {p : Pk} (h : FewK p) : SmK p := ⟨smallP_of h.pr.1 fun k hk => ⟨by have := (h.pr.2 k hk).1; omega, by have := (h.pr.2 k hk).2; omega⟩, smallP_of h.wr.1 fun k hk => ⟨by have := (h.wr.2 k hk).1; omega, by have := (h.wr.2 k hk).2; omega⟩, by have := h.ct; omega, by have := h.wt; omega, by have := h.wp; omega, by have := h.us; omega, by have := h.ps; omega⟩
/-- What ConnectBack holds while it compares. -/
structure Mb08In (w : World) (p : Pk) (A A4 : PkA) (k9 : Nat) (c c4 : Array Value) (W : World) : Prop where
  bel : Below w.heap.size w W
  box : Blk W w.heap.size 29 c
  got : Blk W k9 29 c4
  arg : PkIn W w.heap.size A p
  dec : PkIn W W.heap.size A4 (bareK p)
theorem Mb08In.below {w W W' : World} {p : Pk} {A A4 : PkA} {k9 : Nat} {c c4 : Array Value} (h : Mb08In w p A A4 k9 c c4 W) (hb : Below W.heap.size W W') : Mb08In w p A A4 k9 c c4 W' :=
  ⟨h.bel.trans (hb.mono h.bel.size), h.box.below hb h.box.lt, h.got.below hb h.got.lt, h.arg.below hb, (h.dec.below hb).mono hb.size⟩
theorem Mb08In.drewN {w W : World} {p : Pk} {A A4 : PkA} {k9 : Nat} {c c4 : Array Value} (h : Mb08In w p A A4 k9 c c4 W) (d : Nat) : Mb08In w p A A4 k9 c c4 (W.drewN d) := h.below (below_drewN (Below.refl _ _) d)
set_option maxHeartbeats 16000000 in
theorem connectBack_walk (S : Nat → Addr) (p : Pk) (A : PkA) (first : Int) (body : ByteArray) (w : World) (hE : Env w S) (h : PkArg w A p) (_hfi : (Lit.int .i64 first).wf = true) (_hbo : body.size ≤ maxLen) :
    Calls Tryz.prog 4 #[p.agg A, .int .i64 first, .string body] w fun x w' => x = .returned (.bool true) ∧ Below w.heap.size w w' := by
  have HE := Lib.hid hE
  obtain ⟨z, hz⟩ : ∃ z, z = pk0.cells pa0 := ⟨_, rfl⟩
  have HZ := Lib.hid hz
  have HZS := Lib.hid (show z.size = 26 by rw [hz]; rfl)
  obtain ⟨c, hc⟩ : ∃ c, c = p.cells A := ⟨_, rfl⟩
  rw [show p.agg A = .agg c from by rw [hc]; rfl]
  have HC := Lib.hid hc
  have HS := Lib.hid (show c.size = 26 by rw [hc]; rfl)
  have b1 : Below w.heap.size w (w.alloc (.cells c 29)) := (Below.refl _ _).alloc (Nat.le_refl _) _
  obtain ⟨W1, hW1⟩ : ∃ W, W = w.alloc (.cells c 29) := ⟨_, rfl⟩
  rw [← hW1] at b1
  have HA := Lib.hid h
  have hfw := few08 (w := W1) (A := A) (p := p) ⟨(h.inn.below b1).mono b1.size, h.pl, h.wl, h.sl, h.fl, h.cl⟩
  rw [show p.agg A = .agg c from by rw [hc]; rfl] at hfw
  have HFW := Lib.hid hfw
  have HB1 := Lib.hid b1
  have HW1 := Lib.hid hW1
  have K1 := Lib.hid (show Blk W1 w.heap.size 29 c from by rw [hW1]; exact Blk.made w 29 c)
  clear hE hz hc b1 hfw hW1 h
  go_enter Tryz.func4, Tryz.ntmps4
  go_wp2_with (first | refine wpk_box HS.out _ rfl rfl rfl ?_ | refine wpk_load (Blk.made w 29 c) HS.out _ rfl rfl rfl ?_)
  rw [← HW1.out]
  refine HFW.out.mono ?_
  rintro x w2 ⟨b, rfl, hfk, hb2⟩
  have HB2 := Lib.hid (HB1.out.trans (hb2.mono HB1.out.size))
  have K2 := Lib.hid (K1.out.below hb2 K1.out.lt)
  cases b with
  | false =>
    clear hfk hb2 HFW
    go_wp2_with fail
    refine (awake08 (HE.out.later HB2.out)).mono ?_
    rintro x w3 ⟨rfl, hb3⟩
    have HB3 := Lib.hid (HB2.out.trans (hb3.mono HB2.out.size))
    clear hb3
    go_wp2_with fail
    go_ret
    exact ⟨rfl, HB3.out⟩
  | true =>
    have hk := hfk rfl
    have HK := Lib.hid hk
    have HSM := Lib.hid (smK_of hk)
    clear hfk hk hb2 HFW
    by_cases hbs : 2048 < body.size
    · go_wp2_with fail
      refine (awake08 (HE.out.later HB2.out)).mono ?_
      rintro x w3 ⟨rfl, hb3⟩
      have HB3 := Lib.hid (HB2.out.trans (hb3.mono HB2.out.size))
      clear hb3
      go_wp2_with fail
      go_ret
      exact ⟨rfl, HB3.out⟩
    · have hbs' : body.size ≤ 2048 := by omega
      clear hbs
      have hen := enc08 (p := p) (A := A) (HE.out.later HB2.out) ((HA.out.inn.below HB2.out).mono HB2.out.size) HSM.out
      rw [show p.agg A = .agg c from by rw [HC.out]; rfl] at hen
      have hbk := fun hno => enK_backS (p := p) HSM.out hno
      have hbd := enK_bad (p := p)
      have hln := enK_lenS (p := p) HSM.out
      obtain ⟨⟨fe, f1, fs⟩, hf⟩ : ∃ f, f = enK p := ⟨_, rfl⟩
      rw [← hf] at hen hbk hbd hln
      simp only at hbk hbd hln
      have HEN := Lib.hid hen
      have HBK := Lib.hid hbk
      have HBD := Lib.hid hbd
      have HLN := Lib.hid hln
      clear hen hbk hbd hln hf
      go_wp2_with (refine wpk_load K2.out HS.out _ rfl rfl rfl ?_)
      refine HEN.out.mono ?_
      rintro x w3 ⟨e3, rfl, he3, hb3⟩
      simp only at he3 ⊢
      obtain ⟨W3, hW3⟩ : ∃ W, W = w3.alloc (.cells #[.int .i64 f1, .string fs] 33) := ⟨_, rfl⟩
      have hb3' : Below w3.heap.size w3 W3 := by rw [hW3]; exact (Below.refl _ _).alloc (Nat.le_refl _) _
      have HB3 := Lib.hid ((HB2.out.trans (hb3.mono HB2.out.size)).trans (hb3'.mono (HB2.out.trans (hb3.mono HB2.out.size)).size))
      have K3 := Lib.hid ((K2.out.below hb3 K2.out.lt).below hb3' (K2.out.below hb3 K2.out.lt).lt)
      have HW3 := Lib.hid hW3
      have HDE := Lib.hid (dec08 (HE.out.later HB3.out) (s := fs) f1 (by have := HLN.out; omega))
      clear hb3 hb3' hW3 HEN HB2 K2 HB1 K1
      by_cases h0 : fe.no = 0
      case' pos =>
        obtain rfl := err_zero8 he3 h0
        have hde := HDE.out
        rw [HBK.out h0] at hde
        have HD := Lib.hid hde
        clear hde h0 he3 HDE HBK HBD
        go_wp2_with fail
        rw [← HW3.out]
        refine HD.out.mono ?_
        rintro x w4 ⟨A4, e4, rfl, hp4, he4, hb4⟩
        obtain rfl := err_zero8 he4 rfl
        simp only at hp4 ⊢
        obtain ⟨c4, hc4⟩ : ∃ c, c = (bareK p).cells A4 := ⟨_, rfl⟩
        rw [show (bareK p).agg A4 = .agg c4 from by rw [hc4]; rfl]
        have HC4 := Lib.hid hc4
        have HS4 := Lib.hid (show c4.size = 26 by rw [hc4]; rfl)
        have HO4 := Lib.hid (show c4.all (·.oneCell') = true by rw [hc4]; exact pk_one _ _)
        obtain ⟨W4, hW4⟩ : ∃ W, W = w4.alloc (.cells c4 29) := ⟨_, rfl⟩
        have hb4' : Below w4.heap.size w4 W4 := by rw [hW4]; exact (Below.refl _ _).alloc (Nat.le_refl _) _
        have hB4 := HB3.out.trans (hb4.mono HB3.out.size)
        have HI := Lib.hid (show Mb08In w p A A4 w4.heap.size c c4 W4 from
          ⟨hB4.trans (hb4'.mono hB4.size), (K3.out.below hb4 K3.out.lt).below hb4' (K3.out.below hb4 K3.out.lt).lt, by rw [hW4]; exact Blk.made _ _ _, HA.out.inn.below (hB4.trans (hb4'.mono hB4.size)), ((hp4.mono hb4.size).below hb4').mono hb4'.size⟩)
        have HW4 := Lib.hid hW4
        clear hb4 hb4' hB4 hW4 hp4 he4 hc4 HB3 K3 HD
        go_wp2_with (first | refine wpk_alloc HZ.out rfl rfl ?_ | refine wpk_store_new HZS.out (c := c4) HS4.out HO4.out _ _ rfl rfl rfl rfl ?_)
        rw [← HW4.out]
        have D28 := Lib.hid (fun (W : World) (h : Mb08In w p A A4 w4.heap.size c c4 W) => show Calls Tryz.prog 19 #[.agg c] W (BrSays W (bareK p)) from by
          have h1 := bare08 h.arg h.bel.size HSM.out
          rw [show p.agg A = .agg c from by rw [HC.out]; rfl] at h1
          exact h1)
        have D15 := Lib.hid (fun (W : World) (A5 : PkA) (hd : PkIn W W.heap.size A4 (bareK p)) (h5 : PkIn W W.heap.size A5 (bareK p)) => show Calls Tryz.prog 18 #[.agg c4, (bareK p).agg A5] W (fun x w' => x = .returned (.bool true) ∧ Below W.heap.size W w') from by
          have h1 := same_ok hd h5 (bareK_ok HSM.out)
          rw [show (bareK p).agg A4 = .agg c4 from by rw [HC4.out]; rfl] at h1
          exact h1)
        refine wp_region_held_drew (S := fun W => Mb08In w p A A4 w4.heap.size c c4 W) (by kernel_rfl) ?_ (fun hHeld => ?_)
        · first | exact HI.out | exact HI.out.drewN 1
        refine wpAnyH_take (i := 0) (oi := { dst := some 38, op := Op.move (Operand.tmp 10), type := 35, pos := _, after := _, guard := none }) (v := .nilIface) rfl (by kernel_rfl) (by kernel_rfl) (by kernel_rfl) (fun _ _ _ h => h) (Or.inl ⟨by rfl, fun w' hs => ?_⟩) (by assumption) ?_
        · go_simp
        simp only [Act.put, List.setIfInBounds_toArray, List.set_cons_zero, List.set_cons_succ]
        refine wpAnyH_take (i := 1) (oi := { dst := some 39, op := Op.binOp BinOp.neq 35 (Operand.tmp 38) (Operand.const Value.nilIface) 35, type := 4, pos := _, after := _, guard := none }) (v := .bool false) rfl (by kernel_rfl) (by kernel_rfl) (by kernel_rfl) (fun _ _ _ h => h) (Or.inl ⟨by rfl, fun w' hs => ?_⟩) (by assumption) ?_
        · go_simp
        simp only [Act.put, List.setIfInBounds_toArray, List.set_cons_zero, List.set_cons_succ]
        refine wpAnyH_take (i := 2) (oi := { dst := some 40, op := Op.move (Operand.tmp 39), type := 4, pos := _, after := _, guard := none }) (v := .bool false) rfl (by kernel_rfl) (by kernel_rfl) (by kernel_rfl) (fun _ _ _ h => h) (Or.inl ⟨by rfl, fun w' hs => ?_⟩) (by assumption) ?_
        · go_simp
        simp only [Act.put, List.setIfInBounds_toArray, List.set_cons_zero, List.set_cons_succ]
        refine wpAnyH_take (i := 3) (oi := { dst := some 41, op := Op.load 29 (Operand.tmp 9), type := 29, pos := _, after := _, guard := some (2, false) }) (v := .agg c4) rfl (by kernel_rfl) (by kernel_rfl) (by kernel_rfl) (fun _ _ _ h => h) (yk_load (by rfl) _ rfl rfl (fun w' hs => hs.got) HS4.out) (by assumption) ?_
        simp only [Act.put, List.setIfInBounds_toArray, List.set_cons_zero, List.set_cons_succ]
        refine wpAnyH_take (i := 4) (oi := { dst := some 42, op := Op.load 29 (Operand.tmp 3), type := 29, pos := _, after := _, guard := some (2, false) }) (v := .agg c) rfl (by kernel_rfl) (by kernel_rfl) (by kernel_rfl) (fun _ _ _ h => h) (yk_load (by rfl) _ rfl rfl (fun w' hs => hs.box) HS.out) (by assumption) ?_
        simp only [Act.put, List.setIfInBounds_toArray, List.set_cons_zero, List.set_cons_succ]
        refine wpAnyH_ready (rs := [5]) (by kernel_rfl) (by simp) ?_
        refine AllReadyH.cons (o := { dst := some 43, op := Op.call { callee := Callee.value (Operand.func 19), args := #[Operand.tmp 42], argTypes := #[29] }, type := 29, pos := _, after := _, guard := some (2, false) }) rfl (fun K hK => ?_) AllReadyH.nil
        go_simp
        refine (D28.out _ hHeld).mono ?_
        rintro x w5 ⟨A5, rfl, hp5, hb5⟩
        obtain ⟨c5, hc5⟩ : ∃ c, c = (bareK p).cells A5 := ⟨_, rfl⟩
        rw [show (bareK p).agg A5 = .agg c5 from by rw [hc5]; rfl]
        have hi5 := hHeld.below hb5
        have hsm := D15.out w5 A5 hi5.dec (hp5.mono hb5.size) 
        rw [show (bareK p).agg A5 = .agg c5 from by rw [hc5]; rfl] at hsm
        have HSA := Lib.hid hsm
        clear hsm hp5 hb5 hc5
        go_wp2_with fail
        refine hK.out _ _ ?_ (fun hHeld5 => ?_)
        · exact hi5
        clear hK K
        try simp only [Act.put, List.setIfInBounds_toArray, List.set_cons_zero, List.set_cons_succ]
        refine wpAnyH_ready (rs := [6]) (by kernel_rfl) (by simp) ?_
        refine AllReadyH.cons (o := { dst := some 44, op := Op.call { callee := Callee.value (Operand.func 18), args := #[Operand.tmp 41, Operand.tmp 43], argTypes := #[29, 29] }, type := 4, pos := _, after := _, guard := some (2, false) }) rfl (fun K hK => ?_) AllReadyH.nil
        go_simp
        refine HSA.out.mono ?_
        rintro x w6 ⟨rfl, hb6⟩
        have hi6 := hi5.below hb6
        have HI6 := Lib.hid hi6
        clear hb6
        go_wp2_with fail
        refine hK.out _ _ ?_ (fun hHeld6 => ?_)
        · exact hi6
        clear hK K
        try simp only [Act.put, List.setIfInBounds_toArray, List.set_cons_zero, List.set_cons_succ]
        refine wpAnyH_take (i := 7) (oi := { dst := some 45, op := Op.unOp UnOp.not 4 (Operand.tmp 44), type := 4, pos := _, after := _, guard := some (2, false) }) (v := .bool false) rfl (by kernel_rfl) (by kernel_rfl) (by kernel_rfl) (fun _ _ _ h => h) (Or.inl ⟨by rfl, fun w' hs => ?_⟩) (by assumption) ?_
        · go_simp
        simp only [Act.put, List.setIfInBounds_toArray, List.set_cons_zero, List.set_cons_succ]
        refine wpAnyH_take (i := 8) (oi := { dst := some 46, op := Op.pick (Operand.tmp 40) (Operand.const (Value.bool true)) (Operand.tmp 45), type := 4, pos := _, after := _, guard := none }) (v := .bool false) rfl (by kernel_rfl) (by kernel_rfl) (by kernel_rfl) (fun _ _ _ h => h) (Or.inl ⟨by rfl, fun w' hs => ?_⟩) (by assumption) ?_
        · go_simp
        simp only [Act.put, List.setIfInBounds_toArray, List.set_cons_zero, List.set_cons_succ]
        refine wpAnyH_done (by kernel_rfl) ?_ _
        have HB6 := Lib.hid HI6.out.bel
        clear HI6 hHeld6 hHeld5 hHeld hi6 hi5 HSA D28 D15 HI
        go_wp2_with fail
      case' neg =>
        obtain ⟨t3, u3, rfl⟩ := err_iface he3 h0
        obtain ⟨z1, z2⟩ := HBD.out h0
        subst z1 z2
        obtain ⟨w6, hw6⟩ : ∃ w6, w6 = W3 := ⟨_, rfl⟩
        have HB6 := Lib.hid (show Below w.heap.size w w6 from by rw [hw6]; exact HB3.out)
        have K36 := Blk.made w3 33 #[.int .i64 0, .string ⟨#[]⟩]
        have q0 := K36.cell 0
        have q1 := K36.cell 1
        have HW6 := Lib.hid hw6
        clear h0 he3 HDE HBK HBD K36 hw6
        go_wp2_with fail
        rw [← HW3.out, ← HW6.out]
      all_goals
        have hqd := dec08 (HE.out.later HB6.out) (s := body) first (by omega)
        have hdb := fun hno => deK_backS (first := first) (s := body) hbs' hno
        have hbad := dcK_bad (first := first) (s := body)
        obtain ⟨⟨qe, qx⟩, hq⟩ : ∃ q, q = dcK first body := ⟨_, rfl⟩
        rw [← hq] at hqd hdb hbad
        simp only at hdb hbad
        have HQD := Lib.hid hqd
        have HDB := Lib.hid hdb
        have HBAD := Lib.hid hbad
        clear hqd hdb hbad hq
        refine HQD.out.mono ?_
        rintro x w7 ⟨A7, e7, rfl, hp7, he7, hb7⟩
        simp only at hp7 he7 ⊢
        obtain ⟨c7, hc7⟩ : ∃ c, c = qx.cells A7 := ⟨_, rfl⟩
        rw [show qx.agg A7 = .agg c7 from by rw [hc7]; rfl]
        have HC7 := Lib.hid hc7
        have HS7 := Lib.hid (show c7.size = 26 by rw [hc7]; rfl)
        have HO7 := Lib.hid (show c7.all (·.oneCell') = true by rw [hc7]; exact pk_one _ _)
        obtain ⟨W7, hW7⟩ : ∃ W, W = w7.alloc (.cells c7 29) := ⟨_, rfl⟩
        have hb7' : Below w7.heap.size w7 W7 := by rw [hW7]; exact (Below.refl _ _).alloc (Nat.le_refl _) _
        have hB7 := HB6.out.trans (hb7.mono HB6.out.size)
        have HB7 := Lib.hid (hB7.trans (hb7'.mono hB7.size))
        have HP7 := Lib.hid (((hp7.mono hb7.size).below hb7').mono hb7'.size)
        have HW7 := Lib.hid hW7
        by_cases hno : qe.no = 0
        case pos =>
          obtain rfl := err_zero8 he7 hno
          obtain ⟨d1, d2, d3, d4⟩ := HDB.out hno
          have hen := enc08 (p := qx) (A := A7) (HE.out.later HB7.out) HP7.out d1
          rw [show qx.agg A7 = .agg c7 from by rw [hc7]; rfl] at hen
          have hln := enK_lenS d1
          obtain ⟨⟨ge, g1, gs⟩, hg⟩ : ∃ f, f = enK qx := ⟨_, rfl⟩
          rw [← hg] at hen d2 d3 hln
          simp only at d2 d3 hln
          have HEN := Lib.hid hen
          have HD2 := Lib.hid d2
          have HD3 := Lib.hid d3
          have HLG := Lib.hid hln
          have HOK := Lib.hid d4
          clear hen d1 d2 d3 d4 hln hg hc7 hW7 hb7 hb7' hB7 hp7 he7 hno HQD HDB HBAD
          go_wp2_with (first | refine wpk_alloc HZ.out rfl rfl ?_ | refine wpk_store_new HZS.out (c := c7) HS7.out HO7.out _ _ rfl rfl rfl rfl ?_ | refine wpk_load (Blk.made w7 29 c7) HS7.out _ rfl rfl rfl ?_)
          rw [← HW7.out]
          refine HEN.out.mono ?_
          rintro x w8 ⟨e8, rfl, he8, hb8⟩
          obtain rfl := err_zero8 he8 HD2.out
          simp only
          obtain ⟨W8, hW8⟩ : ∃ W, W = w8.alloc (.cells #[.int .i64 g1, .string gs] 33) := ⟨_, rfl⟩
          have hb8' : Below w8.heap.size w8 W8 := by rw [hW8]; exact (Below.refl _ _).alloc (Nat.le_refl _) _
          have hB8 := HB7.out.trans (hb8.mono HB7.out.size)
          have HB8 := Lib.hid (hB8.trans (hb8'.mono hB8.size))
          have k7 : Blk W7 w7.heap.size 29 c7 := by rw [HW7.out]; exact Blk.made _ _ _
          have K8 := Lib.hid ((k7.below hb8 k7.lt).below hb8' (k7.below hb8 k7.lt).lt)
          have HP8 := Lib.hid ((((HP7.out.below hb8).mono hb8.size).below hb8').mono hb8'.size)
          have hde := dec08 (HE.out.later HB8.out) (s := gs) g1 (by have := HLG.out; omega)
          rw [HD3.out] at hde
          have HDE2 := Lib.hid hde
          have HW8 := Lib.hid hW8
          clear hde hW8 hb8 hb8' hB8 k7 he8 HEN
          go_wp2_with fail
          rw [← HW8.out]
          refine HDE2.out.mono ?_
          rintro x w9 ⟨A9, e9, rfl, hp9, he9, hb9⟩
          obtain rfl := err_zero8 he9 rfl
          simp only at hp9 ⊢
          obtain ⟨c9, hc9⟩ : ∃ c, c = qx.cells A9 := ⟨_, rfl⟩
          rw [show qx.agg A9 = .agg c9 from by rw [hc9]; rfl]
          have HS9 := Lib.hid (show c9.size = 26 by rw [hc9]; rfl)
          have HO9 := Lib.hid (show c9.all (·.oneCell') = true by rw [hc9]; exact pk_one _ _)
          obtain ⟨W9, hW9⟩ : ∃ W, W = w9.alloc (.cells c9 29) := ⟨_, rfl⟩
          have hb9' : Below w9.heap.size w9 W9 := by rw [hW9]; exact (Below.refl _ _).alloc (Nat.le_refl _) _
          have hB9 := HB8.out.trans (hb9.mono HB8.out.size)
          have HB9 := Lib.hid (hB9.trans (hb9'.mono hB9.size))
          have K9 := Lib.hid (show Blk (w9.alloc (.cells c9 29)) w7.heap.size 29 c7 from by rw [← hW9]; exact (K8.out.below hb9 K8.out.lt).below hb9' (K8.out.below hb9 K8.out.lt).lt)
          have hsm := same_ok (p := qx) (((HP8.out.below hb9).mono hb9.size).below hb9') ((hp9.mono hb9.size).below hb9') HOK.out
          rw [show qx.agg A7 = .agg c7 from by rw [HC7.out]; rfl, show qx.agg A9 = .agg c9 from by rw [hc9]; rfl] at hsm
          have HSS := Lib.hid hsm
          have HW9 := Lib.hid hW9
          clear hsm hW9 hb9 hb9' hB9 hp9 he9 hc9 K8 HP8 HDE2
          go_wp2_with (first | refine wpk_alloc HZ.out rfl rfl ?_ | refine wpk_store_new HZS.out (c := c9) HS9.out HO9.out _ _ rfl rfl rfl rfl ?_ | refine wpk_load_g K9.out HS7.out _ rfl rfl rfl ?_ | refine wpk_load_g (Blk.made w9 29 c9) HS9.out _ rfl rfl rfl ?_)
          rw [← HW9.out]
          refine HSS.out.mono ?_
          rintro x w10 ⟨rfl, hb10⟩
          have HB10 := Lib.hid (HB9.out.trans (hb10.mono HB9.out.size))
          clear hb10 HSS
          go_wp2_with fail
          refine (awake08 (HE.out.later HB10.out)).mono ?_
          rintro x w11 ⟨rfl, hb11⟩
          have HB11 := Lib.hid (HB10.out.trans (hb11.mono HB10.out.size))
          clear hb11
          go_wp2_with fail
          go_ret
          exact ⟨rfl, HB11.out⟩
        case neg =>
          obtain ⟨t7, u7, rfl⟩ := err_iface he7 hno
          obtain rfl := HBAD.out hno
          have hsm := same_ok (p := pk0) HP7.out (PkIn.zero W7 W7.heap.size) smOk_zero
          rw [show pk0.agg A7 = .agg c7 from by rw [hc7]; rfl, show pk0.agg pa0 = .agg z from by rw [HZ.out]; rfl] at hsm
          have HSS := Lib.hid hsm
          clear hsm hc7 hW7 hb7 hb7' hB7 hp7 he7 hno HQD HDB HBAD
          go_wp2_with (first | refine wpk_alloc HZ.out rfl rfl ?_ | refine wpk_build HZ.out rfl rfl ?_ | refine wpk_store_new HZS.out (c := c7) HS7.out HO7.out _ _ rfl rfl rfl rfl ?_ | refine wpk_load (Blk.made w7 29 c7) HS7.out _ rfl rfl rfl ?_)
          rw [← HW7.out]
          refine HSS.out.mono ?_
          rintro x w8 ⟨rfl, hb8⟩
          have HB8 := Lib.hid (HB7.out.trans (hb8.mono HB7.out.size))
          clear hb8 HSS
          go_wp2_with fail
          refine (awake08 (HE.out.later HB8.out)).mono ?_
          rintro x w9 ⟨rfl, hb9⟩
          have HB9 := Lib.hid (HB8.out.trans (hb9.mono HB8.out.size))
          clear hb9
          go_wp2_with fail
          go_ret
          exact ⟨rfl, HB9.out⟩
end Go.Proofs.YtbfbmdjnobdjpaaGreatDoor
