/- What is proved here: check and Decode of package connack tell what plain functions say. Conditions: few bytes; what the rows list of the package's variables. What is proved here: a frame that is decoded by connack.Decode. Conditions: the writer is there; what Decode tells. What is proved here: Encode of package connack, and the document's Bare, tell what plain functions say. Conditions: few bytes, the packet's parts stand where it says; what the rows list of the package's variables. -/
import Derived.Test.YtinhecggmakbnaaGreatDoorPlc09
import Derived.Test.YtinhecggmakbnaaGreatDoorDci08
import Derived.Test.YtinhecggmakbnaaGreatDoorBod08
import Derived.Test.YtinhecggmakbnaaGreatDoorBrr08
namespace Go.Proofs.YtinhecggmakbnaaGreatDoor
set_option maxRecDepth 100000
open Go.ChangeShapes Go.WideShapes Go.RowKit Go.Deep Go.Extern.Stop Go.Stop Go.Extern
section
variable {w w' : World} {S : Nat → Addr} {g : Nat} {s : ByteArray} {R : RV}
def Ch9Says (w : World) (S : Nat → Addr) (q : Er) (x : Ending) (w' : World) : Prop := ∃ e, x = .returned e ∧ ErrOf w' S q.r q.no q.at_ e ∧ Below w.heap.size w w'
set_option maxHeartbeats 4000000 in
theorem chk09 (hE : Env w S) (ho : RObj w S g s R) (a b : Nat) : Calls Tryz.prog 135 #[.pointer (some ⟨g, 0, none⟩), .int .i64 a, .int .i64 b] w (Ch9Says w S (chkC a b R)) := by
  obtain ⟨q, hq⟩ : ∃ q, q = chkC a b R := ⟨_, rfl⟩
  rw [← hq]
  unfold chkC at hq
  have HRE := Lib.hid (rerr_any ho)
  have kM := hE.kMalformed
  have kP := hE.kProtocol
  have HAL := Lib.hid (rs_allowed 2 b w)
  have HN0 := Lib.hid (new_err (w := w) S 1 129 0)
  have HN1 := Lib.hid (new_err (w := w) S 1 129 1)
  have HN2 := Lib.hid (new_err (w := w) S 2 130 0)
  clear hE ho
  by_cases h0 : R.no = 0
  · rw [if_pos h0] at hq
    by_cases h1 : 1 < a
    · rw [if_pos h1] at hq
      have HQ := Lib.hid hq
      have h1' : (1 : Int) < (a : Int) := by omega
      clear hq HAL HN1 HN2 kP
      go_enter Tryz.func135, Tryz.ntmps135
      go_wp2_with fail
      refine HRE.out.mono ?_
      rintro x w1 ⟨e, rfl, he, rfl⟩
      unfold ErrOf at he
      rw [if_pos h0] at he
      subst he
      go_wp2_with fail
      refine HN0.out.mono ?_
      rintro x w2 ⟨e, rfl, he, hb⟩
      have HX := Lib.hid (show Ch9Says w S q (.returned e) w2 from by
        rw [HQ.out]
        exact ⟨e, rfl, ErrOf.some (no := 2) (by decide) (by decide) he, hb⟩)
      clear he hb HN0 HRE
      go_wp2_with fail
      go_ret
      exact HX.out
    · rw [if_neg h1] at hq
      have h1' : ¬ (1 : Int) < (a : Int) := by omega
      by_cases h2 : allowedB 2 b = true
      · rw [if_pos h2] at hq
        rw [h2] at HAL
        by_cases h3 : a = 1
        · subst h3
          rw [if_pos rfl] at hq
          by_cases h4 : b = 0
          · subst h4
            rw [if_pos rfl] at hq
            have HQ := Lib.hid hq
            clear hq HN0 HN1 HN2 kM kP h1 h1'
            go_enter Tryz.func135, Tryz.ntmps135
            go_wp2_with fail
            refine HRE.out.mono ?_
            rintro x w1 ⟨e, rfl, he, rfl⟩
            unfold ErrOf at he
            rw [if_pos h0] at he
            subst he
            go_wp2_with fail
            refine HAL.out.mono ?_
            rintro x w2 ⟨rfl, rfl⟩
            go_wp2_with fail
            go_ret
            rw [HQ.out]
            exact ⟨_, rfl, ErrOf.none, Below.refl _ _⟩
          · rw [if_neg h4] at hq
            have HQ := Lib.hid hq
            have h4' : ¬ (b : Int) = 0 := by omega
            clear hq HN0 HN1 kM h1 h1' h4
            go_enter Tryz.func135, Tryz.ntmps135
            go_wp2_with fail
            refine HRE.out.mono ?_
            rintro x w1 ⟨e, rfl, he, rfl⟩
            unfold ErrOf at he
            rw [if_pos h0] at he
            subst he
            go_wp2_with fail
            refine HAL.out.mono ?_
            rintro x w2 ⟨rfl, rfl⟩
            go_wp2_with fail
            refine HN2.out.mono ?_
            rintro x w3 ⟨e, rfl, he, hb⟩
            have HX := Lib.hid (show Ch9Says w S q (.returned e) w3 from by
              rw [HQ.out]
              exact ⟨e, rfl, ErrOf.some (no := 3) (by decide) (by decide) he, hb⟩)
            clear he hb HN2 HRE
            go_wp2_with fail
            go_ret
            exact HX.out
        · rw [if_neg h3] at hq
          have HQ := Lib.hid hq
          have h3' : ¬ (a : Int) = 1 := by omega
          clear hq HN0 HN1 HN2 kM kP h1 h3
          go_enter Tryz.func135, Tryz.ntmps135
          go_wp2_with fail
          refine HRE.out.mono ?_
          rintro x w1 ⟨e, rfl, he, rfl⟩
          unfold ErrOf at he
          rw [if_pos h0] at he
          subst he
          go_wp2_with fail
          refine HAL.out.mono ?_
          rintro x w2 ⟨rfl, rfl⟩
          go_wp2_with fail
          go_ret
          rw [HQ.out]
          exact ⟨_, rfl, ErrOf.none, Below.refl _ _⟩
      · rw [if_neg h2] at hq
        have HQ := Lib.hid hq
        have h2f : allowedB 2 b = false := by simpa using h2
        rw [h2f] at HAL
        clear hq HN0 HN2 kP h1 h2 h2f
        go_enter Tryz.func135, Tryz.ntmps135
        go_wp2_with fail
        refine HRE.out.mono ?_
        rintro x w1 ⟨e, rfl, he, rfl⟩
        unfold ErrOf at he
        rw [if_pos h0] at he
        subst he
        go_wp2_with fail
        refine HAL.out.mono ?_
        rintro x w2 ⟨rfl, rfl⟩
        go_wp2_with fail
        refine HN1.out.mono ?_
        rintro x w3 ⟨e, rfl, he, hb⟩
        have HX := Lib.hid (show Ch9Says w S q (.returned e) w3 from by
          rw [HQ.out]
          exact ⟨e, rfl, ErrOf.some (no := 2) (by decide) (by decide) he, hb⟩)
        clear he hb HN1 HRE
        go_wp2_with fail
        go_ret
        exact HX.out
  · rw [if_neg h0] at hq
    have HQ := Lib.hid hq
    clear hq HN0 HN1 HN2 HAL kM kP
    go_enter Tryz.func135, Tryz.ntmps135
    go_wp2_with fail
    refine HRE.out.mono ?_
    rintro x w1 ⟨e, rfl, he, rfl⟩
    obtain ⟨te, ue, rfl⟩ := err_iface he h0
    clear he
    go_wp2_with fail
    refine HRE.out.mono ?_
    rintro x w2 ⟨e, rfl, he, rfl⟩
    have HX := Lib.hid (show Ch9Says w S q (.returned e) w from by
      rw [HQ.out]
      exact ⟨e, rfl, he, Below.refl _ _⟩)
    clear he HRE
    go_wp2_with fail
    go_ret
    exact HX.out
theorem PkIn.ofC {B : Nat} {p : Bool} {r : Int} {L : PL} {a : Option Addr} {c : Nat} (h : PIn w B a L) (hc : L.length ≤ c) : PkIn w B (paR a c) (pkC p r L) :=
  ⟨h, hc, PIn.nil _ _ _, Nat.le_refl _, CIn.nil _ _ _ _, CIn.nil _ _ _ _, CIn.nil _ _ _ _⟩
set_option maxHeartbeats 8000000 in
theorem dec09 (hE : Env w S) (first : Int) (hs : s.size ≤ 900000) : Calls Tryz.prog 61 #[.agg #[.int .i64 first, .string s]] w (DcSays w S (dcC first s)) := by
  have HE := Lib.hid hE
  have HSZ := Lib.hid hs
  obtain ⟨z, hz⟩ : ∃ z, z = pk0.cells pa0 := ⟨_, rfl⟩
  have HZ := Lib.hid hz
  have HZS := Lib.hid (show z.size = 26 by rw [hz]; rfl)
  have HZ1 := Lib.hid (show z.all (·.oneCell') = true by rw [hz]; exact pk_one _ _)
  obtain ⟨q, hq⟩ : ∃ q, q = dcC first s := ⟨_, rfl⟩
  rw [← hq]
  unfold dcC at hq
  obtain ⟨W2, hW2⟩ : ∃ W, W = (w.alloc (.cells #[.int .i64 first, .string s] 33)).alloc (.cells z 29) := ⟨_, rfl⟩
  have a1 : Below w.heap.size w (w.alloc (.cells #[.int .i64 first, .string s] 33)) := (Below.refl _ _).alloc (Nat.le_refl _) _
  have hb2 : Below w.heap.size w W2 := by rw [hW2]; exact a1.trans (((Below.refl (w.alloc (.cells #[.int .i64 first, .string s] 33)).heap.size _).alloc (Nat.le_refl _) (.cells z 29)).mono a1.size)
  have r1 : Blk W2 (w.heap.size + 1) 29 z := by
    have h := Blk.made (w.alloc (.cells #[.int .i64 first, .string s] 33)) 29 z
    rw [World.size_alloc] at h
    rw [hW2]; exact h
  have HW2 := Lib.hid hW2
  have hb3 : Below W2.heap.size W2 (W2.alloc (.cells #[.string s, .int .i64 0, .nilIface] 180)) := (Below.refl _ _).alloc (Nat.le_refl _) _
  have HI := Lib.hid (show DcI w (W2.alloc (.cells #[.string s, .int .i64 0, .nilIface] 180)) S W2.heap.size s ⟨0, 0, 0⟩ z from ⟨hb2.trans (hb3.mono hb2.size), r1.below hb3 r1.lt, RObj.made W2 S s, hb2.size⟩)
  have HB2 := Lib.hid hb2
  have R1 := Lib.hid r1
  have HLO := Lib.hid hb2.size
  by_cases h0 : first = 32
  · subst h0
    rw [if_pos rfl] at hq
    obtain ⟨⟨a, Ra⟩, ha⟩ : ∃ V, V = rNum s 1 ⟨0, 0, 0⟩ := ⟨_, rfl⟩
    rw [← ha] at hq
    simp only at hq
    obtain ⟨⟨b, Rb⟩, hb⟩ : ∃ V, V = rNum s 1 Ra := ⟨_, rfl⟩
    rw [← hb] at hq
    simp only at hq
    have HQ := Lib.hid hq
    have HA := Lib.hid ha
    have HB := Lib.hid hb
    clear hE hz hs hq a1 hb2 r1 hb3 hW2 ha hb
    go_enter Tryz.func61, Tryz.ntmps61
    go_wp2_with (first | refine wpk_alloc HZ.out rfl rfl ?_)
    rw [← HW2.out]
    refine (rnew_any s W2).mono ?_
    rintro x w3 ⟨rfl, hw3⟩
    rw [← hw3] at HI
    clear hw3
    have hu := ru8_any (HE.out.later HI.out.bel) HI.out.rd (by have := HSZ.out; omega)
    rw [← HA.out] at hu
    have HU := Lib.hid hu
    clear hu
    go_wp2_with fail
    refine HU.out.mono ?_
    rintro x w4 ⟨rfl, hn4⟩
    have HI4 := Lib.hid (HI.out.step hn4)
    have hu := ru8_any (HE.out.later HI4.out.bel) HI4.out.rd (by have := HSZ.out; omega)
    rw [← HB.out] at hu
    have HU2 := Lib.hid hu
    clear hu hn4 HU HI HA
    go_wp2_with fail
    refine HU2.out.mono ?_
    rintro x w5 ⟨rfl, hn5⟩
    have HI5 := Lib.hid (HI4.out.step hn5)
    have HCK := Lib.hid (chk09 (HE.out.later HI5.out.bel) HI5.out.rd a b)
    clear hn5 HU2 HI4 HB
    go_wp2_with fail
    refine HCK.out.mono ?_
    rintro x w6 ⟨e6, rfl, he6, hb6⟩
    have HI6 := Lib.hid (HI5.out.below hb6)
    obtain ⟨ce, hce⟩ : ∃ ce, ce = chkC a b Rb := ⟨_, rfl⟩
    rw [← hce] at he6
    have hq := HQ.out
    unfold dcC1 at hq
    rw [← hce] at hq
    clear hb6 HCK HI5 HQ hce
    by_cases h1 : ce.no = 0
    · rw [if_pos h1] at hq
      unfold ErrOf at he6
      rw [if_pos h1] at he6
      subst he6
      unfold dcC2 at hq
      have hrd := pread_any HE.out HI6.out.bel HI6.out.low HI6.out.rd HSZ.out 2
      have hno := readF_no (k := 2) (s := s) (R := Rb)
      obtain ⟨⟨⟨qn, qr, qa, M⟩, R2⟩, hrq⟩ : ∃ q, q = readF 2 s Rb := ⟨_, rfl⟩
      rw [← hrq] at hrd hno hq
      simp only at hno hq
      have HRD := Lib.hid hrd
      have HNO := Lib.hid hno
      have HQ := Lib.hid hq
      clear hrd hno hrq hq
      go_wp2_with fail
      refine HRD.out.mono ?_
      rintro x w7 ⟨v7, e7, rfl, hr7, he7, hn7⟩
      simp only at hr7 he7 hn7
      have HI7 := Lib.hid (HI6.out.step hn7)
      obtain ⟨a7, n7, c7, rfl, hnn7, hcc7⟩ := hr7.some_form
      have hq := HQ.out
      by_cases h2 : qn = 0
      · subst h2
        rw [if_pos rfl] at hq
        unfold ErrOf at he7
        rw [if_pos rfl] at he7
        subst he7
        have HP7 := Lib.hid (hr7.pin (B' := w.heap.size))
        have HN7 := Lib.hid hnn7
        have HC7 := Lib.hid hcc7
        have h20 := HNO.out rfl
        clear hr7 hnn7 hcc7 hn7 HRD HQ HI6 HNO
        by_cases h3 : R2.p < s.size
        · rw [if_pos h3] at hq
          have HD := Lib.hid (rdone_left (HE.out.later HI7.out.bel) HI7.out.rd h20 (by have := HSZ.out; omega) h3)
          have HQ := Lib.hid hq
          clear hq h3
          go_wp2_with fail
          refine HD.out.mono ?_
          rintro x w8 ⟨e8, rfl, he8, hb8⟩
          obtain ⟨t8, u8, rfl⟩ := err_iface he8 (by decide)
          have hi8 := HI7.out.below hb8
          have hX := hi8.bad HZ.out (q := q) (by rw [HQ.out]) (e := .iface t8 u8) (by rw [HQ.out]; exact he8)
          have HR := Lib.hid hi8.res
          have HX := Lib.hid hX
          clear hX hi8 he8 hb8 HD
          go_wp2_with (first | refine wpk_build HZ.out rfl rfl ?_ | refine wpk_store HR.out HZS.out HZS.out HZ1.out _ _ rfl rfl rfl rfl ?_)
          exact bodyPost_ret (v := .tuple #[.agg z, .iface t8 u8]) (res_pkt (i := 2) (j := 3) rfl rfl rfl HX.out.1 HZS.out) rfl HX.out.2
        · rw [if_neg h3] at hq
          have HD := Lib.hid (rdone_end HI7.out.rd h20 (by have := HSZ.out; omega) (by have := HI7.out.rd.le; omega))
          have HQ := Lib.hid hq
          clear hq h3
          go_wp2_with fail
          refine HD.out.mono ?_
          rintro x w8 ⟨rfl, hb8⟩
          have hi8 := HI7.out.below hb8
          obtain ⟨y, hy⟩ : ∃ y, y = (pkC (decide (a = 1)) b M).cells (paR a7 c7) := ⟨_, rfl⟩
          have hX := hi8.good (p := pkC (decide (a = 1)) b M) (PkIn.ofC (HP7.out.below hb8) (by have := HN7.out; have := HC7.out; omega)) hy
          rw [← HQ.out] at hX
          have HR := Lib.hid hi8.res
          have HX := Lib.hid hX
          have HYS := Lib.hid (show y.size = 26 by rw [hy]; rfl)
          have HY1 := Lib.hid (show y.all (·.oneCell') = true by rw [hy]; exact pk_one _ _)
          have HDA : decide ((a : Int) = 1) = decide (a = 1) := decide_eq_decide.2 (by omega)
          have HYY := Lib.hid (show y = #[.int .i64 2, .int .i64 0, .int .i64 b, .slice a7 n7 c7, .bool false, .int .i64 0, .string ⟨#[]⟩, .bool false, .string ⟨#[]⟩, .string ⟨#[]⟩, .int .i64 0, .bool false, .slice none 0 0, .bool false, .string ⟨#[]⟩, .bool false, .string ⟨#[]⟩, .bool (decide ((a : Int) = 1)), .string ⟨#[]⟩, .string ⟨#[]⟩, .int .i64 0, .bool false, .bool false, .slice none 0 0, .slice none 0 0, .slice none 0 0] from by rw [HDA, hy, HN7.out]; rfl)
          clear hX hi8 hb8 HD hy HDA
          go_wp2_with (first | refine wpk_store HR.out HZS.out HYS.out HY1.out _ _ rfl rfl rfl (by rw [HYY.out]; rfl) ?_)
          exact bodyPost_ret (v := .tuple #[.agg y, .nilIface]) (res_pkt (i := 2) (j := 3) rfl rfl rfl HX.out.1 HYS.out) rfl HX.out.2
      · rw [if_neg h2] at hq
        obtain ⟨t7, u7, rfl⟩ := err_iface he7 h2
        have hX := HI7.out.bad HZ.out (q := q) (by rw [hq]) (e := .iface t7 u7) (by rw [hq]; exact he7)
        have HR := Lib.hid HI7.out.res
        have HX := Lib.hid hX
        clear hX he7 hr7 hn7 HRD HQ HNO hq hnn7 hcc7
        go_wp2_with (first | refine wpk_build HZ.out rfl rfl ?_ | refine wpk_store HR.out HZS.out HZS.out HZ1.out _ _ rfl rfl rfl rfl ?_)
        exact bodyPost_ret (v := .tuple #[.agg z, .iface t7 u7]) (res_pkt (i := 2) (j := 3) rfl rfl rfl HX.out.1 HZS.out) rfl HX.out.2
    · rw [if_neg h1] at hq
      obtain ⟨t6, u6, rfl⟩ := err_iface he6 h1
      have hX := HI6.out.bad HZ.out (q := q) (by rw [hq]) (e := .iface t6 u6) (by rw [hq]; exact he6)
      have HR := Lib.hid HI6.out.res
      have HX := Lib.hid hX
      clear hX he6 hq
      go_wp2_with (first | refine wpk_build HZ.out rfl rfl ?_ | refine wpk_store HR.out HZS.out HZS.out HZ1.out _ _ rfl rfl rfl rfl ?_)
      exact bodyPost_ret (v := .tuple #[.agg z, .iface t6 u6]) (res_pkt (i := 2) (j := 3) rfl rfl rfl HX.out.1 HZS.out) rfl HX.out.2
  · rw [if_neg h0] at hq
    have HQ := Lib.hid hq
    have kM := (hE.later hb2).kMalformed
    rw [hW2] at kM
    have HN := Lib.hid (new_err (w := W2) S 1 129 0)
    clear hE hz hs hq a1 hb2 r1 hb3 hW2 HI
    go_enter Tryz.func61, Tryz.ntmps61
    go_wp2_with (first | refine wpk_alloc HZ.out rfl rfl ?_ | refine wpk_build HZ.out rfl rfl ?_)
    rw [← HW2.out]
    refine HN.out.mono ?_
    rintro x w7 ⟨e, rfl, he, hb7⟩
    obtain ⟨te, ue, rfl⟩ := he.iface
    have r1 := R1.out.below hb7 R1.out.lt
    have hb := HB2.out.trans (hb7.mono HB2.out.size)
    have hbf := below_row hb (k := w.heap.size + 1) (by omega) z
    have r3 := setRow_blk r1 z
    have LD := Lib.hid (And.intro r3 HZS.out)
    have HX := Lib.hid (show DcSays w S q (.returned (.tuple #[.agg z, .iface te ue])) (w7.setRow (w.heap.size + 1) z) from by
      rw [HQ.out]
      exact DcSays.bad8 HZ.out rfl (err_row (ErrOf.some (no := 2) (by decide) (by decide) he) r1 z) hbf)
    have HR1 := Lib.hid r1
    clear hb7 hb hbf r1 r3 kM he
    go_wp2_with (first | refine wpk_build HZ.out rfl rfl ?_ | refine wpk_store HR1.out HZS.out HZS.out HZ1.out _ _ rfl rfl rfl rfl ?_)
    exact bodyPost_ret (v := .tuple #[.agg z, .iface te ue]) (res_pkt (i := 2) (j := 3) rfl rfl rfl LD.out.1 LD.out.2) rfl HX.out
end
end Go.Proofs.YtinhecggmakbnaaGreatDoor
namespace Go.Proofs.YtinhecggmakbnaaGreatDoor
set_option maxRecDepth 100000
open Go.RowKit Go.Extern.Stop Go.Stop Go.Extern
section
variable {z w w' : World} {S : Nat → Addr} {B g : Nat} {s : ByteArray} {R : RV} {v : Value} {W : EV}
set_option maxHeartbeats 8000000 in
theorem frame_any09 (first : Int) (h : WObj w S B g v W) {q : Er × Pk} (hdc : ∀ W1 : World, Below w.heap.size w W1 → Calls Tryz.prog 61 #[.agg #[.int .i64 first, .string ⟨W.L.toArray⟩]] W1 (DcSays W1 S q)) :
    Calls Tryz.prog 54 #[.int .i64 first, .pointer (some ⟨g, 0, none⟩), .func (.func 61) #[] #[]] w (FrSays w S (frR W first q.1)) := by
  obtain ⟨f, hf⟩ : ∃ f, f = frR W first q.1 := ⟨_, rfl⟩
  rw [← hf]
  unfold frR at hf
  have hb1 : Below w.heap.size w (w.alloc (.cells #[.int .i64 0, .string ⟨#[]⟩] 33)) := (Below.refl _ _).alloc (Nat.le_refl _) _
  have HW := Lib.hid (wbytes_any (h.below hb1))
  have HK := Lib.hid (Blk.made w 33 #[.int .i64 0, .string ⟨#[]⟩])
  have HB1 := Lib.hid hb1
  have HD := Lib.hid hdc
  have HF := Lib.hid hf
  clear hb1 hdc h hf
  go_enter Tryz.func54, Tryz.ntmps54
  go_wp2_with fail
  refine HW.out.mono ?_
  rintro x w2 ⟨e2, rfl, he2, hb2⟩
  obtain ⟨W0, Wa, WL⟩ := W
  obtain ⟨qe, qp⟩ := q
  simp only at he2 HD HF ⊢
  have k2 := HK.out.below hb2 HK.out.lt
  have hb12 := HB1.out.trans (hb2.mono HB1.out.size)
  have HB2 := Lib.hid hb12
  have HK2 := Lib.hid k2
  have hff := HF.out
  by_cases h0 : W0 = 0
  · subst h0
    rw [if_pos rfl] at hff
    unfold ErrOf at he2
    rw [if_pos rfl] at he2
    subst he2
    obtain ⟨t, ht⟩ : ∃ t : ByteArray, t = ⟨WL.toArray⟩ := ⟨_, rfl⟩
    rw [← ht] at HD hff
    have HFF := Lib.hid hff
    have hb3 : Below w2.heap.size w2 (w2.alloc (.cells #[.int .i64 first, .string t] 33)) := (Below.refl _ _).alloc (Nat.le_refl _) _
    have hb13 := hb12.trans (hb3.mono hb12.size)
    have HDD := Lib.hid (HD.out _ hb13)
    have HB3 := Lib.hid hb13
    have HK3 := Lib.hid (k2.below hb3 k2.lt)
    have HK4 := Lib.hid (Blk.made w2 33 #[.int .i64 first, .string t])
    clear hb2 k2 hb12 hff hb3 hb13 HD HW HF HK HB1 HB2 HK2
    rw [show (⟨(EV.L ⟨0, Wa, WL⟩).toArray⟩ : ByteArray) = t from ht.symm]
    clear ht
    go_wp2_with fail
    refine HDD.out.mono ?_
    rintro x w4 ⟨A4, e4, rfl, _, he4, hb4⟩
    simp only at he4
    obtain ⟨c, hc⟩ : ∃ c, c = qp.cells A4 := ⟨_, rfl⟩
    rw [show Pk.agg (qe, qp).2 A4 = .agg c from by rw [hc]; rfl]
    have hcs : c.size = 26 := by rw [hc]; rfl
    have hst := st_pkt w4 c hcs (by rw [hc]; exact pk_one _ _)
    have hst2 := st_pktc w4 c hcs (by rw [hc]; exact pk_one _ _)
    clear hc
    have hb5 : Below w4.heap.size w4 (w4.alloc (.cells c 29)) := (Below.refl _ _).alloc (Nat.le_refl _) _
    have k3 := (HK3.out.below hb4 HK3.out.lt).below hb5 (HK3.out.below hb4 HK3.out.lt).lt
    have k4 := (HK4.out.below hb4 HK4.out.lt).below hb5 (HK4.out.below hb4 HK4.out.lt).lt
    have hb15 := (HB3.out.trans (hb4.mono HB3.out.size)).trans (hb5.mono (HB3.out.trans (hb4.mono HB3.out.size)).size)
    have c0 := k4.cell 0
    have c1 := k4.cell 1
    have h2 : ∀ {a b : Value}, (#[a, b] : Array Value)[0]? = some a ∧ (#[a, b] : Array Value)[1]? = some b := ⟨rfl, rfl⟩
    rw [h2.1] at c0
    rw [h2.2] at c1
    clear h2
    by_cases hq0 : qe.no = 0
    · have hff := HFF.out
      rw [if_pos hq0] at hff
      unfold ErrOf at he4
      rw [if_pos hq0] at he4
      subst he4
      obtain ⟨⟨z0, z1, y0, y1⟩, ⟨z2, y2⟩, ⟨f0, f1⟩, _⟩ := fr_facts (S := S) k3 (.int .i64 first) (.string t)
      have hbf := (hb15.setCell (p := ⟨w.heap.size, 0, none⟩) (Nat.le_refl _) (.int .i64 first)).setCell (p := ⟨w.heap.size, 1, none⟩) (Nat.le_refl _) (.string t)
      have HX := Lib.hid (show ∀ W, Below w.heap.size w W → FrSays w S f (.returned (.tuple #[.agg #[.int .i64 first, .string t], .nilIface])) W from fun W hb => by
        rw [hff]
        exact ⟨_, rfl, ErrOf.none, hb⟩)
      have HBF := Lib.hid hbf
      clear hff hbf hb5 k3 k4 hb15 hb4 HDD HFF HB3 HK3 HK4
      go_wp2
      exact bodyPost_ret (v := .tuple #[.agg #[.int .i64 first, .string t], .nilIface]) (by simp [results, Tryz.results54, go_sem, f0, f1]) rfl (HX.out _ HBF.out)
    · have hff := HFF.out
      rw [if_neg hq0] at hff
      obtain ⟨t4, u4, rfl⟩ := err_iface he4 hq0
      obtain ⟨⟨z0, z1, y0, y1⟩, ⟨z2, y2⟩, ⟨f0, f1⟩, ferr⟩ := fr_facts (S := S) k3 (.int .i64 0) (.string ⟨#[]⟩)
      have hbf := (hb15.setCell (p := ⟨w.heap.size, 0, none⟩) (Nat.le_refl _) (.int .i64 0)).setCell (p := ⟨w.heap.size, 1, none⟩) (Nat.le_refl _) (.string ⟨#[]⟩)
      have hee := ferr _ _ _ _ (he4.later hb5)
      have HX := Lib.hid (show FrSays w S f (.returned (.tuple #[.agg #[.int .i64 0, .string ⟨#[]⟩], .iface t4 u4])) _ from by
        rw [hff]
        exact ⟨_, rfl, hee, hbf⟩)
      clear hff hbf hb5 k3 k4 hb15 hb4 he4 hee ferr HDD HFF HB3 HK3 HK4
      go_wp2
      exact bodyPost_ret (v := .tuple #[.agg #[.int .i64 0, .string ⟨#[]⟩], .iface t4 u4]) (by simp [results, Tryz.results54, go_sem, f0, f1]) rfl HX.out
  · rw [if_neg h0] at hff
    obtain ⟨t2, u2, rfl⟩ := err_iface he2 h0
    obtain ⟨⟨z0, z1, y0, y1⟩, ⟨z2, y2⟩, ⟨f0, f1⟩, ferr⟩ := fr_facts (S := S) k2 (.int .i64 0) (.string ⟨#[]⟩)
    have hbf := (hb12.setCell (p := ⟨w.heap.size, 0, none⟩) (Nat.le_refl _) (.int .i64 0)).setCell (p := ⟨w.heap.size, 1, none⟩) (Nat.le_refl _) (.string ⟨#[]⟩)
    have hee := ferr _ _ _ _ he2
    have HX := Lib.hid (show FrSays w S f (.returned (.tuple #[.agg #[.int .i64 0, .string ⟨#[]⟩], .iface t2 u2])) _ from by
      rw [hff]
      exact ⟨_, rfl, hee, hbf⟩)
    clear hb2 hb12 hff he2 hbf hee ferr k2 HD HW HF HK HB1 HB2 HK2
    go_wp2
    exact bodyPost_ret (v := .tuple #[.agg #[.int .i64 0, .string ⟨#[]⟩], .iface t2 u2]) (by simp [results, Tryz.results54, go_sem, f0, f1]) rfl HX.out
end
end Go.Proofs.YtinhecggmakbnaaGreatDoor
namespace Go.Proofs.YtinhecggmakbnaaGreatDoor
set_option maxRecDepth 100000
open Go.ChangeShapes Go.WideShapes Go.RowKit Go.Deep Go.Extern.Stop Go.Stop Go.Extern
def SmC (p : Pk) : Prop := SmallP p.props
theorem enC_backS {p : Pk} (h : SmC p) (hno : (enC p).e.no = 0) : dcC (enC p).first (enC p).s = (e00, bareC p) := enC_back (small_mem h).1 (small_mem h).2 hno
theorem enC_lenS {p : Pk} (h : SmC p) : (enC p).s.size ≤ 63846 := enC_len h
theorem bareC_ok {p : Pk} (h : SmC p) : SmOk (bareC p) := ⟨rfl, by show (plL p.props).length ≤ 1000; rw [plL_len]; exact small_few h, Nat.zero_le _, Nat.zero_le _, Nat.zero_le _⟩
theorem deC_backS {first : Int} {s : ByteArray} (hss : s.size ≤ 2048) (h : (dcC first s).1.no = 0) : SmC (dcC first s).2 ∧ (enC (dcC first s).2).e.no = 0 ∧ dcC (enC (dcC first s).2).first (enC (dcC first s).2).s = (e00, (dcC first s).2) ∧ SmOk (dcC first s).2 := by
  obtain ⟨h1, h2, h3⟩ := deC_back hss h
  obtain ⟨l1, l2, l3, l4⟩ := dcC_lists first s
  exact ⟨h1, h2, h3, l1, small_few h1, by rw [l2]; exact Nat.zero_le _, by rw [l3]; exact Nat.zero_le _, by rw [l4]; exact Nat.zero_le _⟩
section
variable {w w' : World} {S : Nat → Addr} {A : PkA} {p : Pk}
set_option maxHeartbeats 8000000 in
theorem enc09 (hE : Env w S) (h : PkIn w w.heap.size A p) (hS : SmC p) : Calls Tryz.prog 16 #[p.agg A] w (FrSays w S (enC p)) := by
  obtain ⟨q, hq⟩ : ∃ q, q = enC p := ⟨_, rfl⟩
  rw [← hq]
  unfold enC at hq
  obtain ⟨c, hc⟩ : ∃ c, c = p.cells A := ⟨_, rfl⟩
  rw [show p.agg A = .agg c from by rw [hc]; rfl]
  have HCS := Lib.hid (show c.size = 26 by rw [hc]; rfl)
  have hc2 : c[2]? = some (.int .i64 p.reason) := by rw [hc]; rfl
  have hc3 : c[3]? = some (.slice A.pa p.props.length A.pc) := by rw [hc]; rfl
  have hc17 : c[17]? = some (.bool p.present) := by rw [hc]; rfl
  obtain ⟨W2, hW2⟩ : ∃ W, W = (w.alloc (.cells c 29)).alloc (.cells #[.int .i64 0, .string ⟨#[]⟩] 33) := ⟨_, rfl⟩
  have a1 : Below w.heap.size w (w.alloc (.cells c 29)) := (Below.refl _ _).alloc (Nat.le_refl _) _
  have hb2 : Below w.heap.size w W2 := by rw [hW2]; exact a1.trans (((Below.refl (w.alloc (.cells c 29)).heap.size _).alloc (Nat.le_refl _) (.cells #[.int .i64 0, .string ⟨#[]⟩] 33)).mono a1.size)
  have r0 : Blk W2 w.heap.size 29 c := by
    rw [hW2]; exact (Blk.made w 29 c).alloc (.cells #[.int .i64 0, .string ⟨#[]⟩] 33)
  have r1 : Blk W2 (w.heap.size + 1) 33 #[.int .i64 0, .string ⟨#[]⟩] := by
    have h := Blk.made (w.alloc (.cells c 29)) 33 #[.int .i64 0, .string ⟨#[]⟩]
    rw [World.size_alloc] at h
    rw [hW2]; exact h
  have HEC := Lib.hid (encode_any (hE.later hb2) 2 p.props.length A.pc rfl ((h.pr.below hb2).mono hb2.size) hS h.pc)
  have HEL := Lib.hid (encR_len (k := 2) hS)
  have hln := wrC_len hS
  obtain ⟨⟨en, er, ea, eb⟩, hE2⟩ : ∃ E, E = encR 2 p.props := ⟨_, rfl⟩
  unfold wrC at hq hln
  rw [← hE2] at HEC HEL hq hln
  simp only at HEC HEL hq hln
  have k3 : W2.cell? ⟨w.heap.size, 3, none⟩ = some (.slice A.pa p.props.length A.pc) := (r0.cell 3).trans hc3
  rw [hW2] at k3
  have HC2 := Lib.hid hc2
  have HC17 := Lib.hid hc17
  have HW2 := Lib.hid hW2
  have HB2 := Lib.hid hb2
  have R0 := Lib.hid r0
  have R1 := Lib.hid r1
  have HE := Lib.hid hE
  have HQ := Lib.hid hq
  have HLN := Lib.hid hln
  clear hq hc hc2 hc3 hc17 a1 hb2 r0 r1 hE hE2 h hS hW2 hln
  go_enter Tryz.func16, Tryz.ntmps16
  go_wp2_with (refine wpk_box HCS.out _ rfl rfl rfl ?_)
  rw [← HW2.out]
  refine HEC.out.mono ?_
  rintro x w3 ⟨e3, rfl, he3, hb3⟩
  simp only at he3 ⊢
  have R03 := Lib.hid (R0.out.below hb3 R0.out.lt)
  have R13 := Lib.hid (R1.out.below hb3 R1.out.lt)
  have HB3 := Lib.hid (HB2.out.trans (hb3.mono HB2.out.size))
  clear k3 HEC R0 R1 hb3
  by_cases h0 : en = 0
  · have hq := HQ.out
    rw [if_pos h0] at hq
    unfold ErrOf at he3
    rw [if_pos h0] at he3
    subst he3
    have HQ2 := Lib.hid hq
    obtain ⟨W4, hW4⟩ : ∃ W, W = w3.alloc (.cells #[.slice none 0 0, .nilIface] 64) := ⟨_, rfl⟩
    have b4 : Below w3.heap.size w3 W4 := by rw [hW4]; exact (Below.refl _ _).alloc (Nat.le_refl _) _
    have ho : WObj W4 S w.heap.size w3.heap.size (.slice none 0 0) w0 := by rw [hW4]; exact WObj.made w3 S HB3.out.size
    have HB4 := Lib.hid (HB3.out.trans (b4.mono HB3.out.size))
    have R04 := Lib.hid (R03.out.below b4 R03.out.lt)
    have R14 := Lib.hid (R13.out.below b4 R13.out.lt)
    have HO := Lib.hid ho
    have k17 : w3.cell? ⟨w.heap.size, 17, none⟩ = some (.bool p.present) := (R03.out.cell 17).trans HC17.out
    have HW4 := Lib.hid hW4
    clear hq b4 ho hW4 HQ
    obtain ⟨pr, hpr⟩ : ∃ pr, pr = p.present := ⟨_, rfl⟩
    rw [← hpr] at k17
    have HPR := Lib.hid hpr
    clear hpr
    cases pr with
    | false =>
      have hsn : ((bit9 p.present : Nat) : Int) = 0 := by rw [← HPR.out]; rfl
      have HSN := Lib.hid hsn
      have HU1 := Lib.hid (wu8_any (HE.out.later HB4.out) HO.out (by decide) 0)
      clear hsn
      go_wp2_with fail
      rw [← HW4.out]
      refine HU1.out.mono ?_
      rintro x w5 ⟨rfl, v5, hn5⟩
      have r05 := hn5.blk HO.out R04.out (by decide) (by decide)
      have r15 := hn5.blk HO.out R14.out (by decide) (by decide)
      have hb5 := hn5.later HO.out HB4.out
      have k2 : w5.cell? ⟨w.heap.size, 2, none⟩ = some (.int .i64 p.reason) := (r05.cell 2).trans HC2.out
      have HU2 := Lib.hid (wu8_any (HE.out.later hb5) hn5.obj (by have := stepW_num_len w0 (0 : Int); have h0 : w0.L.length = 0 := rfl; omega) p.reason)
      have HN5 := Lib.hid hn5
      have R05 := Lib.hid r05
      have R15 := Lib.hid r15
      have HB5 := Lib.hid hb5
      clear k17 HU1 hn5 r05 r15 hb5
      go_wp2_with fail
      refine HU2.out.mono ?_
      rintro x w6 ⟨rfl, v6, hn6⟩
      have hb6 := hn6.later HN5.out.obj HB5.out
      have HW := Lib.hid (wraw_any hn6.obj (by have := stepW_num_len w0 (0 : Int); have := stepW_num_len (stepW w0 (numE 1 (0 : Int))) p.reason; have h0 : w0.L.length = 0 := rfl; omega) ⟨eb.toArray⟩ (by rw [bsize]; have := HEL.out; omega))
      have R16 := Lib.hid (hn6.blk HN5.out.obj R15.out (by decide) (by decide))
      have HN6 := Lib.hid hn6
      have HB6 := Lib.hid hb6
      clear k2 HU2 hn6 hb6 HN5 HB5 R05 R15
      go_wp2_with fail
      refine HW.out.mono ?_
      rintro x w7 ⟨rfl, v7, hn7⟩
      have hb7 := hn7.later HN6.out.obj HB6.out
      have R17 := Lib.hid (hn7.blk HN6.out.obj R16.out (by decide) (by decide))
      have hq := HQ2.out
      rw [HSN.out] at hq
      have hln := HLN.out
      rw [HSN.out] at hln
      obtain ⟨V, hV⟩ : ∃ V, V = stepW (stepW (stepW w0 (numE 1 (0 : Int))) (numE 1 p.reason)) ⟨0, 0, eb⟩ := ⟨_, rfl⟩
      rw [← hV] at hn7
      replace hq : q = frR V 32 (dcC 32 ⟨V.L.toArray⟩).1 := by rw [hV]; exact hq
      replace hln : V.L.length ≤ 63846 := by rw [hV]; exact hln
      have HFA := Lib.hid (frame_any09 32 hn7.obj (fun W1 hb => dec09 (HE.out.later (hb7.trans (hb.mono hb7.size))) 32 (show (⟨V.L.toArray⟩ : ByteArray).size ≤ 900000 from by rw [bsize]; omega)))
      rw [← hq] at HFA
      have HB7 := Lib.hid hb7
      clear hn7 hb7 hq hln hV HW HN6 HB6 R16 HQ2 HLN HSN
      go_wp2_with fail
      refine HFA.out.mono ?_
      rintro x w8 ⟨e8, rfl, he8, hb8⟩
      have r1 := R17.out.below hb8 R17.out.lt
      have hb := HB7.out.trans (hb8.mono HB7.out.size)
      obtain ⟨⟨z0, z1, y0, y1⟩, ⟨z2, y2⟩, ⟨f0, f1⟩, ferr⟩ := fr_facts (S := S) r1 (.int .i64 q.first) (.string q.s)
      have hbf := (hb.setCell (p := ⟨w.heap.size + 1, 0, none⟩) (by show w.heap.size ≤ w.heap.size + 1; omega) (.int .i64 q.first)).setCell (p := ⟨w.heap.size + 1, 1, none⟩) (by show w.heap.size ≤ w.heap.size + 1; omega) (.string q.s)
      have HX := Lib.hid (show FrSays w S q (.returned (.tuple #[.agg #[.int .i64 q.first, .string q.s], e8])) _ from ⟨e8, rfl, ferr _ _ _ _ he8, hbf⟩)
      clear hb8 r1 hb ferr hbf he8 HFA
      go_wp2
      exact bodyPost_ret (v := .tuple #[.agg #[.int .i64 q.first, .string q.s], e8]) (by simp [results, Tryz.results16, go_sem, f0, f1]) rfl HX.out
    | true =>
      have hsn : ((bit9 p.present : Nat) : Int) = 1 := by rw [← HPR.out]; rfl
      have HSN := Lib.hid hsn
      have HU1 := Lib.hid (wu8_any (HE.out.later HB4.out) HO.out (by decide) 1)
      clear hsn
      go_wp2_with fail
      rw [← HW4.out]
      refine HU1.out.mono ?_
      rintro x w5 ⟨rfl, v5, hn5⟩
      have r05 := hn5.blk HO.out R04.out (by decide) (by decide)
      have r15 := hn5.blk HO.out R14.out (by decide) (by decide)
      have hb5 := hn5.later HO.out HB4.out
      have k2 : w5.cell? ⟨w.heap.size, 2, none⟩ = some (.int .i64 p.reason) := (r05.cell 2).trans HC2.out
      have HU2 := Lib.hid (wu8_any (HE.out.later hb5) hn5.obj (by have := stepW_num_len w0 (1 : Int); have h0 : w0.L.length = 0 := rfl; omega) p.reason)
      have HN5 := Lib.hid hn5
      have R05 := Lib.hid r05
      have R15 := Lib.hid r15
      have HB5 := Lib.hid hb5
      clear k17 HU1 hn5 r05 r15 hb5
      go_wp2_with fail
      refine HU2.out.mono ?_
      rintro x w6 ⟨rfl, v6, hn6⟩
      have hb6 := hn6.later HN5.out.obj HB5.out
      have HW := Lib.hid (wraw_any hn6.obj (by have := stepW_num_len w0 (1 : Int); have := stepW_num_len (stepW w0 (numE 1 (1 : Int))) p.reason; have h0 : w0.L.length = 0 := rfl; omega) ⟨eb.toArray⟩ (by rw [bsize]; have := HEL.out; omega))
      have R16 := Lib.hid (hn6.blk HN5.out.obj R15.out (by decide) (by decide))
      have HN6 := Lib.hid hn6
      have HB6 := Lib.hid hb6
      clear k2 HU2 hn6 hb6 HN5 HB5 R05 R15
      go_wp2_with fail
      refine HW.out.mono ?_
      rintro x w7 ⟨rfl, v7, hn7⟩
      have hb7 := hn7.later HN6.out.obj HB6.out
      have R17 := Lib.hid (hn7.blk HN6.out.obj R16.out (by decide) (by decide))
      have hq := HQ2.out
      rw [HSN.out] at hq
      have hln := HLN.out
      rw [HSN.out] at hln
      obtain ⟨V, hV⟩ : ∃ V, V = stepW (stepW (stepW w0 (numE 1 (1 : Int))) (numE 1 p.reason)) ⟨0, 0, eb⟩ := ⟨_, rfl⟩
      rw [← hV] at hn7
      replace hq : q = frR V 32 (dcC 32 ⟨V.L.toArray⟩).1 := by rw [hV]; exact hq
      replace hln : V.L.length ≤ 63846 := by rw [hV]; exact hln
      have HFA := Lib.hid (frame_any09 32 hn7.obj (fun W1 hb => dec09 (HE.out.later (hb7.trans (hb.mono hb7.size))) 32 (show (⟨V.L.toArray⟩ : ByteArray).size ≤ 900000 from by rw [bsize]; omega)))
      rw [← hq] at HFA
      have HB7 := Lib.hid hb7
      clear hn7 hb7 hq hln hV HW HN6 HB6 R16 HQ2 HLN HSN
      go_wp2_with fail
      refine HFA.out.mono ?_
      rintro x w8 ⟨e8, rfl, he8, hb8⟩
      have r1 := R17.out.below hb8 R17.out.lt
      have hb := HB7.out.trans (hb8.mono HB7.out.size)
      obtain ⟨⟨z0, z1, y0, y1⟩, ⟨z2, y2⟩, ⟨f0, f1⟩, ferr⟩ := fr_facts (S := S) r1 (.int .i64 q.first) (.string q.s)
      have hbf := (hb.setCell (p := ⟨w.heap.size + 1, 0, none⟩) (by show w.heap.size ≤ w.heap.size + 1; omega) (.int .i64 q.first)).setCell (p := ⟨w.heap.size + 1, 1, none⟩) (by show w.heap.size ≤ w.heap.size + 1; omega) (.string q.s)
      have HX := Lib.hid (show FrSays w S q (.returned (.tuple #[.agg #[.int .i64 q.first, .string q.s], e8])) _ from ⟨e8, rfl, ferr _ _ _ _ he8, hbf⟩)
      clear hb8 r1 hb ferr hbf he8 HFA
      go_wp2
      exact bodyPost_ret (v := .tuple #[.agg #[.int .i64 q.first, .string q.s], e8]) (by simp [results, Tryz.results16, go_sem, f0, f1]) rfl HX.out
  · have hq := HQ.out
    rw [if_neg h0] at hq
    obtain ⟨te, ue, rfl⟩ := err_iface he3 h0
    obtain ⟨⟨z0, z1, y0, y1⟩, ⟨z2, y2⟩, ⟨f0, f1⟩, ferr⟩ := fr_facts (S := S) R13.out (.int .i64 0) (.string ⟨#[]⟩)
    have hbf := (HB3.out.setCell (p := ⟨w.heap.size + 1, 0, none⟩) (by show w.heap.size ≤ w.heap.size + 1; omega) (.int .i64 0)).setCell (p := ⟨w.heap.size + 1, 1, none⟩) (by show w.heap.size ≤ w.heap.size + 1; omega) (.string ⟨#[]⟩)
    have HX := Lib.hid (show FrSays w S q (.returned (.tuple #[.agg #[.int .i64 0, .string ⟨#[]⟩], .iface te ue])) _ from by
      rw [hq]
      exact ⟨_, rfl, ferr _ _ _ _ he3, hbf⟩)
    clear ferr hbf he3 hq
    go_wp2
    exact bodyPost_ret (v := .tuple #[.agg #[.int .i64 0, .string ⟨#[]⟩], .iface te ue]) (by simp [results, Tryz.results16, go_sem, f0, f1]) rfl HX.out
end
end Go.Proofs.YtinhecggmakbnaaGreatDoor
