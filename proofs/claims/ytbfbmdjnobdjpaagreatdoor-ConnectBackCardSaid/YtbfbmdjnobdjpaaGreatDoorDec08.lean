/- What is proved here: Decode of package connect tells what a plain function says. Conditions: few bytes; what the rows list of the package's variables. -/
import Derived.Test.YtbfbmdjnobdjpaaGreatDoorWil08
import Derived.Deep.DeepCutAuto
namespace Go.Proofs.YtbfbmdjnobdjpaaGreatDoor
set_option maxRecDepth 100000
open Go.ChangeShapes Go.WideShapes Go.RowKit Go.Deep Go.Extern.Stop Go.Stop Go.Extern
theorem hdK_ok {s : ByteArray} (h : (hdK s).1.no = 0) : mayK (hdK s).2.1 = true ∧ (hdK s).2.1 < 256 := by
  unfold hdK hdK2 hdK3 at h ⊢
  by_cases d1 : (rText s ⟨0, 0, 0⟩).2.no = 0 ∧ (rText s ⟨0, 0, 0⟩).1 ≠ mqtt
  · rw [if_pos d1] at h
    exact absurd (show (3 : Nat) = 0 from h) (by decide)
  · rw [if_neg d1] at h ⊢
    generalize (rText s ⟨0, 0, 0⟩).2 = R1 at *
    by_cases d2 : (rNum s 1 R1).2.no = 0 ∧ (rNum s 1 R1).1 ≠ 5
    · rw [if_pos d2] at h
      exact absurd (show (3 : Nat) = 0 from h) (by decide)
    · rw [if_neg d2] at h ⊢
      generalize (rNum s 1 R1).2 = R2 at *
      by_cases d3 : mayK (rNum s 1 R2).1 = true
      · rw [if_pos d3] at h ⊢
        by_cases d4 : (rNum s 1 R2).2.no = 0
        · rw [if_pos d4]
          exact ⟨d3, num1_lt s R2⟩
        · rw [if_neg d4]
          exact ⟨d3, num1_lt s R2⟩
      · rw [if_neg d3] at h
        exact absurd (show (2 : Nat) = 0 from h) (by decide)
theorem mayK_no {n : Nat} (hm : mayK n = true) (h4 : has4 n = false) : qosK n = 0 ∧ has32 n = false := by
  unfold mayK at hm
  rw [h4] at hm
  simp only [Bool.and_eq_true, Bool.or_eq_true, decide_eq_true_eq, Bool.not_eq_true', Bool.false_eq_true, false_or] at hm
  exact hm.2
def paK (a : Option Addr) (c : Nat) (aw : Option Addr) (cw : Nat) : PkA := ⟨a, c, aw, cw, none, 0, none, 0, none, 0⟩
/-- What the decoder holds, with rows of properties. -/
structure DcP (w W : World) (S : Nat → Addr) (g : Nat) (s : ByteArray) (R : RV) (z : Array Value) (k : Nat) (y : Array Value) (a : Option Addr) (L : PL) (aw : Option Addr) (M : PL) : Prop where
  j : DcJ w W S g s R z k y
  p1 : PIn W w.heap.size a L
  p2 : PIn W w.heap.size aw M
section
variable {w W W' : World} {S : Nat → Addr} {g k : Nat} {s : ByteArray} {R R' : RV} {z y : Array Value} {a aw aw' : Option Addr} {L M M' : PL}
theorem DcP.step (h : DcP w W S g s R z k y a L aw M) (hn : RNext W W' S g s R') : DcP w W' S g s R' z k y a L aw M := ⟨h.j.step hn, h.p1.rnext h.j.inn.low h.j.inn.rd hn, h.p2.rnext h.j.inn.low h.j.inn.rd hn⟩
theorem DcP.below (h : DcP w W S g s R z k y a L aw M) (hb : Below W.heap.size W W') : DcP w W' S g s R z k y a L aw M := ⟨h.j.below hb, h.p1.below hb, h.p2.below hb⟩
theorem DcP.cell (h : DcP w W S g s R z k y a L aw M) (i : Nat) (u : Value) : DcP w (W.setCell ⟨k, i, none⟩ u) S g s R z k (y.setIfInBounds i u) a L aw M := ⟨h.j.cell i u, h.j.pin (Nat.le_refl _) h.p1 i u, h.j.pin (Nat.le_refl _) h.p2 i u⟩
theorem DcP.there6 (h : DcP w W S g s R z k y a L aw M) (hy : y.size = 26) : W.there k 7 6 := fun j hj => by
  refine ⟨?_, h.j.box.frozen _⟩
  rw [h.j.box.cell (7 + j), Array.getElem?_eq_getElem (by omega)]
  rfl
theorem DcP.cells6 (h : DcP w W S g s R z k y a L aw M) (u0 u1 u2 u3 u4 u5 : Value) :
    DcP w (W.setCells k 7 (#[u0, u1, u2, u3, u4, u5] : Array Value).toList) S g s R z k ((((((y.setIfInBounds 7 u0).setIfInBounds 8 u1).setIfInBounds 9 u2).setIfInBounds 10 u3).setIfInBounds 11 u4).setIfInBounds 12 u5) a L aw M :=
  (((((h.cell 7 u0).cell 8 u1).cell 9 u2).cell 10 u3).cell 11 u4).cell 12 u5
theorem PIn.cells6 {B : Nat} (h : DcP w W S g s R z k y a L aw M) (hp : PIn W 0 aw' M') (u0 u1 u2 u3 u4 u5 : Value) : PIn (W.setCells k 7 (#[u0, u1, u2, u3, u4, u5] : Array Value).toList) B aw' M' := by
  have h1 := h.j.pin (Nat.zero_le _) hp 7 u0
  have j1 := h.j.cell 7 u0
  have h2 := j1.pin (Nat.zero_le _) h1 8 u1
  have j2 := j1.cell 8 u1
  have h3 := j2.pin (Nat.zero_le _) h2 9 u2
  have j3 := j2.cell 9 u2
  have h4 := j3.pin (Nat.zero_le _) h3 10 u3
  have j4 := j3.cell 10 u3
  have h5 := j4.pin (Nat.zero_le _) h4 11 u4
  have j5 := j4.cell 11 u4
  have h6 := j5.pin (Nat.zero_le _) h5 12 u5
  exact PIn.any h6
theorem ErrOf.cells6 (h : DcP w W S g s R z k y a L aw M) {r : Int} {no at_ : Nat} {e : Value} (he : ErrOf W S r no at_ e) (u0 u1 u2 u3 u4 u5 : Value) : ErrOf (W.setCells k 7 (#[u0, u1, u2, u3, u4, u5] : Array Value).toList) S r no at_ e := by
  have h1 := h.j.err he 7 u0
  have j1 := h.j.cell 7 u0
  have h2 := j1.err h1 8 u1
  have j2 := j1.cell 8 u1
  have h3 := j2.err h2 9 u2
  have j3 := j2.cell 9 u2
  have h4 := j3.err h3 10 u3
  have j4 := j3.cell 10 u3
  have h5 := j4.err h4 11 u4
  have j5 := j4.cell 11 u4
  exact j5.err h5 12 u5
theorem PkIn.ofK {B : Nat} {n : Nat} {keep : Int} {cl wt wp us ps : ByteArray} {c cw : Nat} (h : PIn W B a L) (hc : L.length ≤ c) (hw : PIn W B aw M) (hcw : M.length ≤ cw) : PkIn W B (paK a c aw cw) (pkK n keep L cl wt wp M us ps) :=
  ⟨h, hc, hw, hcw, CIn.nil _ _ _ _, CIn.nil _ _ _ _, CIn.nil _ _ _ _⟩
end
def pkU (n : Nat) (keep : Int) (L : PL) (cl wt wp : ByteArray) (M : PL) (hu : Bool) (us : ByteArray) (hp : Bool) (ps : ByteArray) : Pk := ⟨1, 0, 0, L, has2 n, keep, cl, has4 n, wt, wp, (qosK n : Nat), has32 n, M, hu, us, hp, ps, false, ⟨#[]⟩, ⟨#[]⟩, 0, false, false, [], [], []⟩
def yK0 (m2 : Int) (keep : Nat) : Array Value := #[.int .i64 1, .int .i64 0, .int .i64 0, .slice none 0 0, .bool (m2 != 0), .int .i64 keep, .string ⟨#[]⟩, .bool false, .string ⟨#[]⟩, .string ⟨#[]⟩, .int .i64 0, .bool false, .slice none 0 0, .bool false, .string ⟨#[]⟩, .bool false, .string ⟨#[]⟩, .bool false, .string ⟨#[]⟩, .string ⟨#[]⟩, .int .i64 0, .bool false, .bool false, .slice none 0 0, .slice none 0 0, .slice none 0 0]
section
variable {w w' : World} {S : Nat → Addr} {s : ByteArray}
set_option maxHeartbeats 32000000 in
theorem dec08 (hE : Env w S) (first : Int) (hs : s.size ≤ 900000) : Calls Tryz.prog 17 #[.agg #[.int .i64 first, .string s]] w (DcSays w S (dcK first s)) := by
  have HE := Lib.hid hE
  have HSZ := Lib.hid hs
  obtain ⟨z, hz⟩ : ∃ z, z = pk0.cells pa0 := ⟨_, rfl⟩
  have HZ := Lib.hid hz
  have HZS := Lib.hid (show z.size = 26 by rw [hz]; rfl)
  have HZ1 := Lib.hid (show z.all (·.oneCell') = true by rw [hz]; exact pk_one _ _)
  obtain ⟨q, hq⟩ : ∃ q, q = dcK first s := ⟨_, rfl⟩
  rw [← hq]
  unfold dcK at hq
  obtain ⟨W2, hW2⟩ : ∃ W, W = (w.alloc (.cells #[.int .i64 first, .string s] 33)).alloc (.cells z 29) := ⟨_, rfl⟩
  have a1 : Below w.heap.size w (w.alloc (.cells #[.int .i64 first, .string s] 33)) := (Below.refl _ _).alloc (Nat.le_refl _) _
  have hb2 : Below w.heap.size w W2 := by rw [hW2]; exact a1.trans (((Below.refl (w.alloc (.cells #[.int .i64 first, .string s] 33)).heap.size _).alloc (Nat.le_refl _) (.cells z 29)).mono a1.size)
  have r1 : Blk W2 (w.heap.size + 1) 29 z := by
    have h := Blk.made (w.alloc (.cells #[.int .i64 first, .string s] 33)) 29 z
    rw [World.size_alloc] at h
    rw [hW2]; exact h
  have HW2 := Lib.hid hW2
  have hb3 : Below W2.heap.size W2 (W2.alloc (.cells #[.string s, .int .i64 0, .nilIface] 151)) := (Below.refl _ _).alloc (Nat.le_refl _) _
  have HI := Lib.hid (show DcI w (W2.alloc (.cells #[.string s, .int .i64 0, .nilIface] 151)) S W2.heap.size s ⟨0, 0, 0⟩ z from ⟨hb2.trans (hb3.mono hb2.size), r1.below hb3 r1.lt, RObj.made W2 S s, hb2.size⟩)
  have HB2 := Lib.hid hb2
  have R1' := Lib.hid r1
  by_cases h0 : first = 16
  · subst h0
    rw [if_pos rfl] at hq
    unfold dcK1 at hq
    have hok := hdK_ok (s := s)
    obtain ⟨⟨he, n, Ra⟩, hh⟩ : ∃ V, V = hdK s := ⟨_, rfl⟩
    rw [← hh] at hq hok
    simp only at hq hok
    have HQ := Lib.hid hq
    have HH := Lib.hid hh
    have HOK := Lib.hid hok
    clear hE hz hs hq a1 hb2 r1 hb3 hW2 hh hok HB2 R1'
    go_enter Tryz.func17, Tryz.ntmps17
    go_wp2_with (first | refine wpk_alloc HZ.out rfl rfl ?_)
    rw [← HW2.out]
    refine (rnew_any s W2).mono ?_
    rintro x w3 ⟨rfl, hw3⟩
    rw [← hw3] at HI
    clear hw3
    have hhd := head08 HE.out HI.out.bel HI.out.low HI.out.rd HSZ.out
    rw [← HH.out] at hhd
    have HHD := Lib.hid hhd
    clear hhd HH HW2
    go_wp2_with fail
    refine HHD.out.mono ?_
    rintro x w4 ⟨e4, rfl, he4, hn4⟩
    simp only at he4 hn4
    have HI4 := Lib.hid (HI.out.step hn4)
    clear hn4 HHD HI
    have hq := HQ.out
    by_cases h1 : he.no = 0
    · rw [if_pos h1] at hq
      unfold ErrOf at he4
      rw [if_pos h1] at he4
      subst he4
      obtain ⟨hmay, hn256⟩ := HOK.out h1
      have HMAY := Lib.hid hmay
      unfold dcK2 dcK3 at hq
      have hu := ru16_any (HE.out.later HI4.out.bel) HI4.out.rd (by have := HSZ.out; omega)
      obtain ⟨⟨keep, Rb⟩, hb⟩ : ∃ V, V = rNum s 2 Ra := ⟨_, rfl⟩
      rw [← hb] at hu hq
      simp only at hq
      have b2 := bk_2 n hn256
      obtain ⟨m2, hm2⟩ : ∃ m : Int, m = if has2 n then 2 else 0 := ⟨_, rfl⟩
      rw [← hm2] at b2
      have e2 : has2 n = (m2 != 0) := by
        rw [hm2]
        cases has2 n <;> rfl
      have HU := Lib.hid hu
      have HQ2 := Lib.hid hq
      have HE2 := Lib.hid e2
      have HN256 := Lib.hid hn256
      clear hu hq hb hm2 e2 hmay HQ HOK h1
      go_wp2_with fail
      refine HU.out.mono ?_
      rintro x w5 ⟨rfl, hn5⟩
      have hi5 := HI4.out.step hn5
      obtain ⟨y0, hy0⟩ : ∃ y, y = yK0 m2 keep := ⟨_, rfl⟩
      have HY0 := Lib.hid hy0
      have HYS := Lib.hid (show y0.size = 26 by rw [hy0]; rfl)
      have HY1 := Lib.hid (show y0.all (·.oneCell') = true by rw [hy0]; simp [yK0, Value.oneCell'])
      obtain ⟨W6, hW6⟩ : ∃ W, W = w5.alloc (.cells y0 29) := ⟨_, rfl⟩
      have hb6 : Below w5.heap.size w5 W6 := by rw [hW6]; exact (Below.refl _ _).alloc (Nat.le_refl _) _
      obtain ⟨k, hk⟩ : ∃ k, k = w5.heap.size := ⟨_, rfl⟩
      have HP6 := Lib.hid (show DcP w W6 S W2.heap.size s Rb z k y0 none [] none [] from
        ⟨⟨hi5.below hb6, by rw [hW6, hk]; exact Blk.made w5 _ y0, by have := hi5.res.lt; omega⟩, PIn.nil _ _ _, PIn.nil _ _ _⟩)
      have HW6 := Lib.hid hW6
      have HK := Lib.hid hk
      have hrd := pread_any HE.out HP6.out.j.inn.bel HP6.out.j.inn.low HP6.out.j.inn.rd HSZ.out 1
      have hq := HQ2.out
      obtain ⟨⟨⟨qn, qr, qa, L⟩, Rc⟩, hrq⟩ : ∃ V, V = readF 1 s Rb := ⟨_, rfl⟩
      rw [← hrq] at hrd hq
      simp only at hq
      have HRD := Lib.hid hrd
      have HQ3 := Lib.hid hq
      clear hn5 hi5 hy0 hW6 hb6 hk hrd hq hrq HU HI4 HQ2
      go_wp2_with (first | refine wpk_alloc HZ.out rfl rfl ?_ | refine wpk_store_new HZS.out (c := y0) HYS.out HY1.out _ _ rfl rfl rfl (by rw [HY0.out]; rfl) ?_)
      rw [← HW6.out]
      try rw [← HK.out]
      refine HRD.out.mono ?_
      rintro x w7 ⟨v7, e7, rfl, hr7, he7, hn7⟩
      simp only at hr7 he7 hn7
      have hp7 := HP6.out.step hn7
      obtain ⟨a7, n7, c7, rfl, hnn7, hcc7⟩ := hr7.some_form
      have c3 : w7.cell? ⟨k, 3, none⟩ = some (.slice none 0 0) := hp7.j.get (by rw [HY0.out]; rfl)
      have f3 := hp7.j.box.frozen 3
      obtain ⟨y8, hy8⟩ : ∃ y, y = y0.setIfInBounds 3 (.slice a7 n7 c7) := ⟨_, rfl⟩
      have HP8 := Lib.hid (show DcP w (w7.setCell ⟨k, 3, none⟩ (.slice a7 n7 c7)) S W2.heap.size s Rc z k y8 a7 L none [] from
        ⟨by rw [hy8]; exact hp7.j.cell 3 _, hp7.j.pin (Nat.le_refl _) (hr7.pin (B' := w.heap.size)) 3 _, PIn.nil _ _ _⟩)
      have HE8 := Lib.hid (hp7.j.err he7 3 (.slice a7 n7 c7))
      have HY8 := Lib.hid hy8
      have HNN := Lib.hid hnn7
      have HCC := Lib.hid hcc7
      have hq := HQ3.out
      clear hp7 hr7 hn7 hy8 hnn7 hcc7 HRD HP6 HW6 HK HQ3
      by_cases h2 : qn = 0
      · subst h2
        unfold ErrOf at he7
        rw [if_pos rfl] at he7
        subst he7
        rw [if_pos rfl] at hq
        have htx := rdtext_any (env_cl HE.out HP8.out.j.inn.bel HP8.out.j.inn.low) HP8.out.j.inn.rd HSZ.out
        obtain ⟨⟨cl, Rd⟩, ht⟩ : ∃ V, V = rText s Rc := ⟨_, rfl⟩
        rw [← ht] at htx hq
        simp only at hq
        have HTX := Lib.hid htx
        unfold dcK4 at hq
        have HQ3b := Lib.hid hq
        clear htx ht HE8 hq
        go_wp2_with fail
        refine HTX.out.mono ?_
        rintro x w9 ⟨rfl, hn9⟩
        have hq := HQ3b.out
        have hp9 := HP8.out.step hn9
        have c6 : w9.cell? ⟨k, 6, none⟩ = some (.string ⟨#[]⟩) := hp9.j.get (by rw [HY8.out, HY0.out]; rfl)
        have f6 := hp9.j.box.frozen 6
        obtain ⟨y10, hy10⟩ : ∃ y, y = y8.setIfInBounds 6 (.string cl) := ⟨_, rfl⟩
        have hp10 := hp9.cell 6 (.string cl)
        rw [← hy10] at hp10
        have HP10 := Lib.hid hp10
        have HY10 := Lib.hid (show y10 = ((yK0 m2 keep).setIfInBounds 3 (.slice a7 n7 c7)).setIfInBounds 6 (.string cl) by rw [hy10, HY8.out, HY0.out])
        have HYS10 := Lib.hid (show y10.size = 26 by rw [HY10.out]; rfl)
        have b4 := bk_4 n hn256
        clear hn9 hp9 hp10 hy10 HTX HP8 HY8 HQ3b
        by_cases h4 : has4 n = true
        case' pos =>
          rw [if_pos h4] at hq b4
          have HWL := Lib.hid (will08 HE.out HP10.out.j.inn.bel HP10.out.j.inn.low HP10.out.j.inn.rd HSZ.out n hn256)
          have HQ4 := Lib.hid hq
          have H4 := Lib.hid h4
          clear hq h4
          go_wp2_with fail
          refine HWL.out.mono ?_
          rintro x w11 hx
          clear HWL c6 f6
          rcases hx with ⟨h0w, aw, mw, cw, rfl, hpw, hmw, hcw, hnw⟩ | ⟨h0w, tw, uw, rfl, hew, hnw⟩
          rotate_left
          · have hq := HQ4.out
            rw [if_neg h0w] at hq
            have hp11 := HP10.out.step hnw
            obtain ⟨lc, hlc⟩ : ∃ lc, lc = lv0 := ⟨_, rfl⟩
            rw [← hlc]
            have HLS := Lib.hid (show lc.size = 6 by rw [hlc]; rfl)
            have HTH := Lib.hid (show w11.there k 7 lc.size by rw [HLS.out]; exact hp11.there6 HYS10.out)
            have HIP := Lib.hid (show (Tryz.prog.info? 24).map (·.size) = some lc.size by rw [HLS.out]; exact ip_last)
            have HLO := Lib.hid (show lc.all (·.oneCell') = true by rw [hlc]; simp [lv0, Value.oneCell'])
            have hp12 := hp11.cells6 (.bool false) (.string ⟨#[]⟩) (.string ⟨#[]⟩) (.int .i64 0) (.bool false) (.slice none 0 0)
            have he12 := ErrOf.cells6 hp11 hew (.bool false) (.string ⟨#[]⟩) (.string ⟨#[]⟩) (.int .i64 0) (.bool false) (.slice none 0 0)
            have hX := hp12.j.inn.bad HZ.out (q := q) (by rw [hq]) (e := .iface tw uw) (by rw [hq]; exact he12)
            have hR := hp12.j.inn.res
            rw [show (#[Value.bool false, .string ⟨#[]⟩, .string ⟨#[]⟩, .int .i64 0, .bool false, .slice none 0 0] : Array Value) = lc from by rw [hlc]; rfl] at hX hR
            have HX := Lib.hid hX
            have HR := Lib.hid hR
            clear hX hR hp11 hp12 he12 hew hnw hq h0w HQ4 hlc b4 b2
            go_wp2_with (first | refine wpList_store_mid rfl 24 _ _ rfl k 7 lc rfl rfl HTH.out HIP.out HLO.out ?_ | refine wpk_build HZ.out rfl rfl ?_ | refine wpk_store HR.out HZS.out HZS.out HZ1.out _ _ rfl rfl rfl rfl ?_)
            exact bodyPost_ret (v := .tuple #[.agg z, .iface tw uw]) (res_pkt (i := 2) (j := 3) rfl rfl rfl HX.out.1 HZS.out) rfl HX.out.2
          have hq := HQ4.out
          rw [if_pos h0w] at hq
          generalize (rBin s (rText s (readF 16 s Rd).2).2).1 = wp at *
          generalize (rBin s (rText s (readF 16 s Rd).2).2).2 = Re at *
          generalize (rText s (readF 16 s Rd).2).1 = wt at *
          generalize (readF 16 s Rd).1.L = M at *
          have hp11 := HP10.out.step hnw
          obtain ⟨lc, hlc⟩ : ∃ lc, lc = lvO wt wp (qosK n) (has32 n) aw mw cw := ⟨_, rfl⟩
          rw [← hlc]
          have HLS := Lib.hid (show lc.size = 6 by rw [hlc]; rfl)
          have HTH := Lib.hid (show w11.there k 7 lc.size by rw [HLS.out]; exact hp11.there6 HYS10.out)
          have HIP := Lib.hid (show (Tryz.prog.info? 24).map (·.size) = some lc.size by rw [HLS.out]; exact ip_last)
          have HLO := Lib.hid (show lc.all (·.oneCell') = true by rw [hlc]; simp [lvO, Value.oneCell'])
          have hp12 := hp11.cells6 (.bool true) (.string wt) (.string wp) (.int .i64 (qosK n : Nat)) (.bool (has32 n)) (.slice aw mw cw)
          have hpn := PIn.cells6 (B := w.heap.size) hp11 (hpw 0) (.bool true) (.string wt) (.string wp) (.int .i64 (qosK n : Nat)) (.bool (has32 n)) (.slice aw mw cw)
          rw [show (#[Value.bool true, .string wt, .string wp, .int .i64 (qosK n : Nat), .bool (has32 n), .slice aw mw cw] : Array Value) = lc from by rw [hlc]; rfl] at hp12 hpn
          obtain ⟨WN, hWN⟩ : ∃ W, W = w11.setCells k 7 lc.toList := ⟨_, rfl⟩
          rw [← hWN] at hp12 hpn
          obtain ⟨yN, hyN⟩ : ∃ y, y = ((((((y10.setIfInBounds 7 (.bool true)).setIfInBounds 8 (.string wt)).setIfInBounds 9 (.string wp)).setIfInBounds 10 (.int .i64 (qosK n : Nat))).setIfInBounds 11 (.bool (has32 n))).setIfInBounds 12 (.slice aw mw cw)) := ⟨_, rfl⟩
          rw [← hyN] at hp12
          have HPN := Lib.hid (show DcP w WN S W2.heap.size s Re z k yN a7 L aw M from ⟨hp12.j, hp12.p1, hpn⟩)
          have HYN := Lib.hid (show yN = (pkU n keep L cl wt wp M false ⟨#[]⟩ false ⟨#[]⟩).cells (paK a7 c7 aw cw) by
            unfold pkU
            rw [hyN, HY10.out, HE2.out, H4.out, hmw, HNN.out]
            rfl)
          have HMC := Lib.hid (show M.length ≤ cw by omega)
          have HQ5 := Lib.hid hq
          have HWN := Lib.hid hWN
          clear hq h0w hpw hmw hcw hnw hp11 hp12 hpn hlc hyN hWN HQ4 HP10 HY10 b4 H4
          go_upto_region 16 with (first | refine wpList_store_mid rfl 24 _ _ rfl k 7 lc rfl rfl HTH.out HIP.out HLO.out ?_)
          rw [← HWN.out]
          clear HWN HTH HIP HLO HLS
        case' neg =>
          rw [if_neg h4] at hq b4
          have h4f : has4 n = false := by simpa using h4
          obtain ⟨q0, r0⟩ := mayK_no HMAY.out h4f
          obtain ⟨wt, hwt⟩ : ∃ t : ByteArray, t = ⟨#[]⟩ := ⟨_, rfl⟩
          obtain ⟨wp, hwp⟩ : ∃ t : ByteArray, t = ⟨#[]⟩ := ⟨_, rfl⟩
          obtain ⟨M, hM⟩ : ∃ t : PL, t = [] := ⟨_, rfl⟩
          obtain ⟨aw, haw⟩ : ∃ t : Option Addr, t = none := ⟨_, rfl⟩
          obtain ⟨cw, hcw⟩ : ∃ t : Nat, t = 0 := ⟨_, rfl⟩
          obtain ⟨Re, hRe⟩ : ∃ R, R = Rd := ⟨_, rfl⟩
          have hq : q = dcK5 s n keep L cl wt wp M Re := by rw [hq, hwt, hwp, hM, hRe]
          obtain ⟨WN, hWN⟩ : ∃ W, W = w9.setCell ⟨k, 6, none⟩ (.string cl) := ⟨_, rfl⟩
          obtain ⟨yN, hyN⟩ : ∃ y, y = y10 := ⟨_, rfl⟩
          have HPN := Lib.hid (show DcP w WN S W2.heap.size s Re z k yN a7 L aw M from by rw [hWN, hRe, hyN, haw, hM]; exact HP10.out)
          have HYN := Lib.hid (show yN = (pkU n keep L cl wt wp M false ⟨#[]⟩ false ⟨#[]⟩).cells (paK a7 c7 aw cw) by
            unfold pkU
            rw [hyN, HY10.out, HE2.out, h4f, q0, r0, hwt, hwp, hM, haw, hcw, HNN.out]
            rfl)
          have HMC := Lib.hid (show M.length ≤ cw by rw [hM]; exact Nat.zero_le _)
          have HQ5 := Lib.hid hq
          have HWN := Lib.hid hWN
          clear hq h4 h4f q0 r0 hwt hwp hM haw hcw hRe hWN hyN HP10 HY10
          go_upto_region 16 with fail
          rw [← HWN.out]
          clear HWN b4 c6 f6
        all_goals
          have hq := HQ5.out
          unfold dcK5 at hq
          have b128 := bk_128 n hn256
          clear HQ5
          by_cases h8 : has128 n = true
          case' pos =>
            rw [if_pos h8] at b128
            rw [show usK s n Re = rText s Re from by unfold usK; rw [if_pos h8]] at hq
            have htx := rdtext_any (env_cl HE.out HPN.out.j.inn.bel HPN.out.j.inn.low) HPN.out.j.inn.rd HSZ.out
            obtain ⟨⟨us, Rf⟩, ht⟩ : ∃ V, V = rText s Re := ⟨_, rfl⟩
            rw [← ht] at htx hq
            simp only at hq
            have HTX := Lib.hid htx
            have HQ6 := Lib.hid hq
            have H8 := Lib.hid h8
            clear htx ht hq h8
            go_wp2_with fail
            refine HTX.out.mono ?_
            rintro x w13 ⟨rfl, hn13⟩
            have hp13 := HPN.out.step hn13
            have c13 : w13.cell? ⟨k, 13, none⟩ = some (.bool false) := hp13.j.get (by rw [HYN.out]; rfl)
            have f13 := hp13.j.box.frozen 13
            have c14 : w13.cell? ⟨k, 14, none⟩ = some (.string ⟨#[]⟩) := hp13.j.get (by rw [HYN.out]; rfl)
            have f14 := hp13.j.box.frozen 14
            obtain ⟨W8, hW8⟩ : ∃ W, W = (w13.setCell ⟨k, 13, none⟩ (.bool true)).setCell ⟨k, 14, none⟩ (.string us) := ⟨_, rfl⟩
            have hp14 := (hp13.cell 13 (.bool true)).cell 14 (.string us)
            obtain ⟨yU, hyU⟩ : ∃ y, y = (yN.setIfInBounds 13 (.bool true)).setIfInBounds 14 (.string us) := ⟨_, rfl⟩
            rw [← hW8, ← hyU] at hp14
            have HPU := Lib.hid hp14
            have HYU := Lib.hid (show yU = (pkU n keep L cl wt wp M (has128 n) us false ⟨#[]⟩).cells (paK a7 c7 aw cw) by
              rw [hyU, HYN.out, H8.out]
              rfl)
            have HW8 := Lib.hid hW8
            clear hn13 hp13 hp14 hW8 hyU HTX HPN HYN H8
            go_upto_region 18 with fail
            rw [← HW8.out]
            clear HW8 b128 c13 f13 c14 f14
          case' neg =>
            rw [if_neg h8] at b128
            have h8f : has128 n = false := by simpa using h8
            rw [show usK s n Re = (⟨#[]⟩, Re) from by unfold usK; rw [if_neg h8]] at hq
            simp only at hq
            obtain ⟨us, hus⟩ : ∃ t : ByteArray, t = ⟨#[]⟩ := ⟨_, rfl⟩
            obtain ⟨Rf, hRf⟩ : ∃ R, R = Re := ⟨_, rfl⟩
            have hq : q = dcK6 s (pkK n keep L cl wt wp M us (psK s n Rf).1) (psK s n Rf).2 := by rw [hq, hus, hRf]
            obtain ⟨W8, hW8⟩ : ∃ W, W = WN := ⟨_, rfl⟩
            obtain ⟨yU, hyU⟩ : ∃ y, y = yN := ⟨_, rfl⟩
            have HPU := Lib.hid (show DcP w W8 S W2.heap.size s Rf z k yU a7 L aw M from by rw [hW8, hRf, hyU]; exact HPN.out)
            have HYU := Lib.hid (show yU = (pkU n keep L cl wt wp M (has128 n) us false ⟨#[]⟩).cells (paK a7 c7 aw cw) by
              rw [hyU, HYN.out, h8f, hus])
            have HQ6 := Lib.hid hq
            have HW8 := Lib.hid hW8
            clear hq h8 h8f hus hRf hW8 hyU HPN HYN
            go_upto_region 18 with fail
            rw [← HW8.out]
            clear HW8 b128
          all_goals
            have hq := HQ6.out
            have b64 := bk_64 n hn256
            clear HQ6
            by_cases h6 : has64 n = true
            case' pos =>
              rw [if_pos h6] at b64
              rw [show psK s n Rf = rBin s Rf from by unfold psK; rw [if_pos h6]] at hq
              have htx := rbin_any (env_cl HE.out HPU.out.j.inn.bel HPU.out.j.inn.low) HPU.out.j.inn.rd HSZ.out
              obtain ⟨⟨ps, Rg⟩, ht⟩ : ∃ V, V = rBin s Rf := ⟨_, rfl⟩
              rw [← ht] at htx hq
              simp only at hq
              have HTX := Lib.hid htx
              have HQ7 := Lib.hid hq
              have H6 := Lib.hid h6
              clear htx ht hq h6
              go_wp2_with fail
              refine HTX.out.mono ?_
              rintro x w15 ⟨rfl, hn15⟩
              have hp15 := HPU.out.step hn15
              have c15 : w15.cell? ⟨k, 15, none⟩ = some (.bool false) := hp15.j.get (by rw [HYU.out]; rfl)
              have f15 := hp15.j.box.frozen 15
              have c16 : w15.cell? ⟨k, 16, none⟩ = some (.string ⟨#[]⟩) := hp15.j.get (by rw [HYU.out]; rfl)
              have f16 := hp15.j.box.frozen 16
              obtain ⟨W9, hW9⟩ : ∃ W, W = (w15.setCell ⟨k, 15, none⟩ (.bool true)).setCell ⟨k, 16, none⟩ (.string ps) := ⟨_, rfl⟩
              have hp16 := (hp15.cell 15 (.bool true)).cell 16 (.string ps)
              obtain ⟨yV, hyV⟩ : ∃ y, y = (yU.setIfInBounds 15 (.bool true)).setIfInBounds 16 (.string ps) := ⟨_, rfl⟩
              rw [← hW9, ← hyV] at hp16
              have HPV := Lib.hid hp16
              have HYV := Lib.hid (show yV = (pkU n keep L cl wt wp M (has128 n) us (has64 n) ps).cells (paK a7 c7 aw cw) by
                rw [hyV, HYU.out, H6.out]
                rfl)
              have HW9 := Lib.hid hW9
              clear hn15 hp15 hp16 hW9 hyV HTX HPU HYU H6
              go_upto_region 20 with fail
              rw [← HW9.out]
              clear HW9 b64 c15 f15 c16 f16
            case' neg =>
              rw [if_neg h6] at b64
              have h6f : has64 n = false := by simpa using h6
              rw [show psK s n Rf = (⟨#[]⟩, Rf) from by unfold psK; rw [if_neg h6]] at hq
              simp only at hq
              obtain ⟨ps, hps⟩ : ∃ t : ByteArray, t = ⟨#[]⟩ := ⟨_, rfl⟩
              obtain ⟨Rg, hRg⟩ : ∃ R, R = Rf := ⟨_, rfl⟩
              have hq : q = dcK6 s (pkK n keep L cl wt wp M us ps) Rg := by rw [hq, hps, hRg]
              obtain ⟨W9, hW9⟩ : ∃ W, W = W8 := ⟨_, rfl⟩
              obtain ⟨yV, hyV⟩ : ∃ y, y = yU := ⟨_, rfl⟩
              have HPV := Lib.hid (show DcP w W9 S W2.heap.size s Rg z k yV a7 L aw M from by rw [hW9, hRg, hyV]; exact HPU.out)
              have HYV := Lib.hid (show yV = (pkU n keep L cl wt wp M (has128 n) us (has64 n) ps).cells (paK a7 c7 aw cw) by
                rw [hyV, HYU.out, h6f, hps])
              have HQ7 := Lib.hid hq
              have HW9 := Lib.hid hW9
              clear hq h6 h6f hps hRg hW9 hyV HPU HYU
              go_upto_region 20 with fail
              rw [← HW9.out]
              clear HW9 b64
            all_goals
              have hq := HQ7.out
              unfold dcK6 at hq
              clear HQ7 b2
              by_cases hg : Rg.no = 0
              · rw [if_pos hg] at hq
                by_cases hp : Rg.p < s.size
                · rw [if_pos hp] at hq
                  have HD := Lib.hid (rdone_left (HE.out.later HPV.out.j.inn.bel) HPV.out.j.inn.rd hg (by have := HSZ.out; omega) hp)
                  have HQ8 := Lib.hid hq
                  clear hq hg hp
                  go_wp2_with fail
                  refine HD.out.mono ?_
                  rintro x w17 ⟨e17, rfl, he17, hb17⟩
                  obtain ⟨t17, u17, rfl⟩ := err_iface he17 (by decide)
                  have hi17 := HPV.out.j.inn.below hb17
                  have hX := hi17.bad HZ.out (q := q) (by rw [HQ8.out]) (e := .iface t17 u17) (by rw [HQ8.out]; exact he17)
                  have HR := Lib.hid hi17.res
                  have HX := Lib.hid hX
                  clear hX hi17 he17 hb17 HD
                  go_wp2_with (first | refine wpk_build HZ.out rfl rfl ?_ | refine wpk_store HR.out HZS.out HZS.out HZ1.out _ _ rfl rfl rfl rfl ?_)
                  exact bodyPost_ret (v := .tuple #[.agg z, .iface t17 u17]) (res_pkt (i := 2) (j := 3) rfl rfl rfl HX.out.1 HZS.out) rfl HX.out.2
                · rw [if_neg hp] at hq
                  have HD := Lib.hid (rdone_end HPV.out.j.inn.rd hg (by have := HSZ.out; omega) (by have := HPV.out.j.inn.rd.le; omega))
                  have HQ8 := Lib.hid hq
                  clear hq hg hp
                  go_wp2_with fail
                  refine HD.out.mono ?_
                  rintro x w17 ⟨rfl, hb17⟩
                  have hp17 := HPV.out.below hb17
                  have eyV : yV = (pkK n keep L cl wt wp M us ps).cells (paK a7 c7 aw cw) := HYV.out
                  have hX := hp17.j.inn.good (p := pkK n keep L cl wt wp M us ps) (PkIn.ofK hp17.p1 (by have := HNN.out; have := HCC.out; omega) hp17.p2 HMC.out) eyV
                  rw [← HQ8.out] at hX
                  have HX := Lib.hid hX
                  have HVS := Lib.hid (show yV.size = 26 by rw [eyV]; rfl)
                  have HV1 := Lib.hid (show yV.all (·.oneCell') = true by rw [eyV]; exact pk_one _ _)
                  have HBX := Lib.hid hp17.j.box
                  have HRX := Lib.hid hp17.j.inn.res
                  clear hX hp17 hb17 eyV HD
                  go_wp2_with (first | refine wpk_load HBX.out HVS.out _ rfl rfl rfl ?_ | refine wpk_store HRX.out HZS.out HVS.out HV1.out _ _ rfl rfl rfl rfl ?_)
                  exact bodyPost_ret (v := .tuple #[.agg yV, .nilIface]) (res_pkt (i := 2) (j := 3) rfl rfl rfl HX.out.1 HVS.out) rfl HX.out.2
              · rw [if_neg hg] at hq
                have HD := Lib.hid (rdone_err HPV.out.j.inn.rd hg)
                have HQ8 := Lib.hid hq
                have HG := Lib.hid hg
                clear hq hg
                go_wp2_with fail
                refine HD.out.mono ?_
                rintro x w17 ⟨e17, rfl, he17, hb17⟩
                obtain ⟨t17, u17, rfl⟩ := err_iface he17 HG.out
                have hi17 := HPV.out.j.inn.below hb17
                have hX := hi17.bad HZ.out (q := q) (by rw [HQ8.out]) (e := .iface t17 u17) (by rw [HQ8.out]; exact he17)
                have HR := Lib.hid hi17.res
                have HX := Lib.hid hX
                clear hX hi17 he17 hb17 HD
                go_wp2_with (first | refine wpk_build HZ.out rfl rfl ?_ | refine wpk_store HR.out HZS.out HZS.out HZ1.out _ _ rfl rfl rfl rfl ?_)
                exact bodyPost_ret (v := .tuple #[.agg z, .iface t17 u17]) (res_pkt (i := 2) (j := 3) rfl rfl rfl HX.out.1 HZS.out) rfl HX.out.2
      · rw [if_neg h2] at hq
        obtain ⟨t7, u7, rfl⟩ := err_iface he7 h2
        have hX := HP8.out.j.inn.bad HZ.out (q := q) (by rw [hq]) (e := .iface t7 u7) (by rw [hq]; exact HE8.out)
        have HR := Lib.hid HP8.out.j.inn.res
        have HX := Lib.hid hX
        clear hX he7 hq b2
        go_wp2_with (first | refine wpk_build HZ.out rfl rfl ?_ | refine wpk_store HR.out HZS.out HZS.out HZ1.out _ _ rfl rfl rfl rfl ?_)
        exact bodyPost_ret (v := .tuple #[.agg z, .iface t7 u7]) (res_pkt (i := 2) (j := 3) rfl rfl rfl HX.out.1 HZS.out) rfl HX.out.2
    · rw [if_neg h1] at hq
      obtain ⟨t4, u4, rfl⟩ := err_iface he4 h1
      have hX := HI4.out.bad HZ.out (q := q) (by rw [hq]) (e := .iface t4 u4) (by rw [hq]; exact he4)
      have HR := Lib.hid HI4.out.res
      have HX := Lib.hid hX
      clear hX he4 hq HQ HOK
      go_wp2_with (first | refine wpk_build HZ.out rfl rfl ?_ | refine wpk_store HR.out HZS.out HZS.out HZ1.out _ _ rfl rfl rfl rfl ?_)
      exact bodyPost_ret (v := .tuple #[.agg z, .iface t4 u4]) (res_pkt (i := 2) (j := 3) rfl rfl rfl HX.out.1 HZS.out) rfl HX.out.2
  · rw [if_neg h0] at hq
    have HQ := Lib.hid hq
    have HML := Lib.hid (mal08 (hE.later hb2) 0)
    clear hE hz hs hq a1 hb2 r1 hb3 hW2 HI
    go_enter Tryz.func17, Tryz.ntmps17
    go_wp2_with (first | refine wpk_alloc HZ.out rfl rfl ?_ | refine wpk_build HZ.out rfl rfl ?_)
    rw [← HW2.out]
    refine HML.out.mono ?_
    rintro x w7 ⟨e, rfl, he, hb7⟩
    obtain ⟨te, ue, rfl⟩ := err_iface he (by decide)
    have r1 := R1'.out.below hb7 R1'.out.lt
    have hb := HB2.out.trans (hb7.mono HB2.out.size)
    have hbf := below_row hb (k := w.heap.size + 1) (by omega) z
    have r3 := setRow_blk r1 z
    have LD := Lib.hid (And.intro r3 HZS.out)
    have HX := Lib.hid (show DcSays w S q (.returned (.tuple #[.agg z, .iface te ue])) (w7.setRow (w.heap.size + 1) z) from by
      rw [HQ.out]
      exact DcSays.bad8 HZ.out rfl (err_row he r1 z) hbf)
    have HR1 := Lib.hid r1
    clear hb7 hb hbf r1 r3 he
    go_wp2_with (first | refine wpk_build HZ.out rfl rfl ?_ | refine wpk_store HR1.out HZS.out HZS.out HZ1.out _ _ rfl rfl rfl rfl ?_)
    exact bodyPost_ret (v := .tuple #[.agg z, .iface te ue]) (res_pkt (i := 2) (j := 3) rfl rfl rfl LD.out.1 LD.out.2) rfl HX.out
end
end Go.Proofs.YtbfbmdjnobdjpaaGreatDoor
