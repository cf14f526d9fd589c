/- What is proved here: TopicWide answers true for every two texts and number. Conditions: the two errors that utf.Check names are errors. -/
import Derived.Test.YtibjnaccdhcbcaaDoorRow16
import Derived.Deep.RegionHeld3
import Derived.Deep.Cut
import Derived.Deep.RegionHeld3
import Derived.Deep.CutRange
namespace Go.Proofs.YtibjnaccdhcbcaaDoor
open Go.RowKit Go.Extern.Stop Go.Stop Go.Extern
/-- The rows that are asked of, and everything older as it was. -/
structure Two16 (w0 w : World) (lv pv hv : Value) (L P H : List BL) : Prop where
  old : Below w0.heap.size w0 w
  l : Texts w w0.heap.size lv L
  p : Texts w w0.heap.size pv P
  h : Texts w w0.heap.size hv H
theorem Two16.drew {w0 w : World} {lv pv hv : Value} {L P H : List BL} (h : Two16 w0 w lv pv hv L P H) : Two16 w0 w.drew lv pv hv L P H := ⟨h.old.drew, h.l, h.p, h.h⟩
theorem Two16.next {w0 w w' : World} {lv pv hv : Value} {L P H : List BL} (h : Two16 w0 w lv pv hv L P H) (hb : Below w.heap.size w w') : Two16 w0 w' lv pv hv L P H := ⟨h.old.trans (hb.mono h.old.size), h.l.below hb, h.p.below hb, h.h.below hb⟩
theorem texts_empty {w : World} {B : Nat} (hB : B ≤ w.heap.size) : Texts (w.alloc (.cells #[] 9)) B (.slice (some ⟨w.heap.size, 0, none⟩) 0 0) [] :=
  ⟨rfl, .inr ⟨w.heap.size, 0, #[], rfl, hB, Blk.made w 9 #[], Nat.le_refl _, Nat.zero_le _, rfl, rfl⟩⟩
section
variable {S : Nat → Addr} {w : World}
set_option maxHeartbeats 4000000 in
set_option maxRecDepth 100000 in
theorem topicWide_name (S : Nat → Addr) (a b : ByteArray) (n : Nat) (w : World) (he : EnvT w S) (hsa : a.size ≤ 300) (hsb : b.size ≤ 300) (hc : n < 256) (hn : nameB a = true) : Calls Tryd.prog 7 #[.string a, .string b, .int .u8 n] w fun x w' => x = .returned (.bool true) ∧ Below w.heap.size w w' := by
  have E := Lib.hid (fun w' (hb : Below w.heap.size w w') => he.later hb)
  have C8 := Lib.hid (fun w' (hb : Below w.heap.size w w') => awake16 (E.out w' hb))
  have CN := Lib.hid (fun w' (hb : Below w.heap.size w w') => isName_any a (by omega) (E.out w' hb))
  have CM := Lib.hid (fun (f : ByteArray) (hf : f.size ≤ 100000) w' (hb : Below w.heap.size w w') => match_any f a (by omega) (by omega) (E.out w' hb))
  have CL := Lib.hid (fun w' => levels_any (w := w') a (by omega))
  rw [hn] at CN
  have CM1 : Hid (∀ w', Below w.heap.size w w' → Calls Tryd.prog 34 #[.string a, .string a] w' fun x w2 => x = .returned (.bool true) ∧ Below w'.heap.size w' w2) := Lib.hid (fun w' hb => by
    have := CM.out a (by omega) w' hb
    rw [name_takes hn hn hsa] at this
    simpa using this)
  have CNb := Lib.hid (fun w' (hb : Below w.heap.size w w') => isName_any b (by omega) (E.out w' hb))
  have CMb := Lib.hid (CM.out b (by omega))
  have hkey : nameB b = true → matchB b a = (b.toList == a.toList) := fun hb => name_takes hb hn hsb
  have hlv := levs_name hn hsa
  have hlen : 0 < (spl (ls a)).length := by rw [spl_len]; omega
  have hfew := hlv.few
  have P1 := Lib.hid (fun k (hk : k < (spl (ls a)).length) => plus_takes hn hsa hk)
  have P2 := Lib.hid (fun k (hk : k < (spl (ls a)).length) => hash_takes hn hsa hk)
  have P3 := Lib.hid (fun h => long_takes hn hsa h)
  have hap : 0 < a.size := top_pos (by unfold nameB at hn; rw [Bool.and_eq_true] at hn; exact hn.1)
  clear he
  go_enter Tryd.func7, Tryd.ntmps7
  go_wp2_with fail
  refine (CN.out _ (Below.refl _ _)).mono ?_
  rintro x w1 ⟨rfl, hb⟩
  have B1 := Lib.hid hb
  clear hb
  go_wp2_with fail
  refine (CL.out _).mono ?_
  rintro x w2 ⟨v, rfl, ht, hb⟩
  have B2 := Lib.hid (B1.out.trans (hb.mono B1.out.size))
  obtain ⟨al, cl, rfl⟩ := ht.form
  obtain ⟨gl, rfl, hgl, _, hcell⟩ := ht.at_ hlen
  have HT := Lib.hid (ht.base B1.out.size)
  have hrd := ht.rd.2
  clear hb ht CL CN
  generalize hL : spl (ls a) = L at *
  have hlne : ((L.length : Int) == 0) = false := beq_eq_false_iff_ne.2 (by omega)
  have hL0 : ¬ (L.length : Int) = 0 := by omega
  have h3 : (nameB b = false) ∨ (nameB b = true ∧ (b.toList == a.toList) = true) ∨ (nameB b = true ∧ (b.toList == a.toList) = false) := by
    cases nameB b <;> cases (b.toList == a.toList) <;> simp
  obtain ⟨kn, hkn⟩ : ∃ k, k = n % L.length := ⟨_, rfl⟩
  have hkl : kn < L.length := by rw [hkn]; exact Nat.mod_lt _ hlen
  have hki : (n : Int) % (L.length : Int) = (kn : Int) := by rw [hkn]; rfl
  have hkt : (n : Int).tmod (L.length : Int) = (kn : Int) := by rw [hkn]; rfl

  have HC := Lib.hid hcell
  have HLV := Lib.hid hlv
  clear hkn hlv hcell
  go_upto_region 6 with fail
  go_cut [54] from 33 to 119 (fun s54 wx => s54 = .bool false ∧ Below w.heap.size w wx ∧ Texts wx w.heap.size (.slice (some ⟨gl, 0, none⟩) L.length cl) L)
  case first =>
    go_wp2_with fail
    refine (CM1.out _ B2.out).mono ?_
    rintro x w3 ⟨rfl, hb⟩
    have B3 := Lib.hid (B2.out.trans (hb.mono B2.out.size))
    have HT3 := Lib.hid (HT.out.below hb)
    clear hb HT
    go_wp2_with fail
    refine (CNb.out _ B3.out).mono ?_
    rintro x w4 ⟨rfl, hb⟩
    have B4 := Lib.hid (B3.out.trans (hb.mono B3.out.size))
    have HT4 := Lib.hid (HT3.out.below hb)
    clear hb HT3
    rcases h3 with hnb | ⟨hnb, hab⟩ | ⟨hnb, hab⟩
    · rw [hnb]
      clear hkey hnb
      go_wp2_with fail
      go_meet
      exact ⟨rfl, B4.out, HT4.out⟩
    · rw [hkey hnb, hab] at CMb
      rw [hnb]
      go_wp2_with fail
      refine (CMb.out _ B4.out).mono ?_
      rintro x w5 ⟨rfl, hb⟩
      have B5 := Lib.hid (B4.out.trans (hb.mono B4.out.size))
      have HT5 := Lib.hid (HT4.out.below hb)
      clear hb HT4 hkey hnb B4
      go_wp2_with fail
      go_meet
      exact ⟨rfl, B5.out, HT5.out⟩
    · rw [hkey hnb, hab] at CMb
      rw [hnb]
      go_wp2_with fail
      refine (CMb.out _ B4.out).mono ?_
      rintro x w5 ⟨rfl, hb⟩
      have B5 := Lib.hid (B4.out.trans (hb.mono B4.out.size))
      have HT5 := Lib.hid (HT4.out.below hb)
      clear hb HT4 hkey hnb B4
      go_wp2_with fail
      go_meet
      exact ⟨rfl, B5.out, HT5.out⟩
  case rest =>
    obtain ⟨rfl, hb, ht⟩ := hcut
    have BC := Lib.hid hb
    have HTC := Lib.hid ht
    clear hb ht CM1 CNb CMb hkey h3 B2 B1 HT
    have hfree : ∃ fr : Bool, fr = (decide (0 < kn) || !(bAt a 0 == 36)) := ⟨_, rfl⟩
    obtain ⟨fr, hfr⟩ := hfree
    have P1' := Lib.hid ((P1.out kn hkl).trans hfr.symm)
    have P2' := Lib.hid ((P2.out kn hkl).trans hfr.symm)
    clear P1 P2
    have e0 : a[0]'hap = a[0]'hap := rfl
    have h36 : (((a[0]'hap).toNat : Int) != 36) = !(bAt a 0 == 36) := by
      rw [bAt_get hap]
      by_cases h : (a[0]'hap).toNat = 36
      · rw [h]; rfl
      · have h1 : (((a[0]'hap).toNat : Int) != 36) = true := bne_iff_ne.2 (by omega)
        have h2 : ((a[0]'hap).toNat == 36) = false := beq_eq_false_iff_ne.2 h
        rw [h1, h2]; rfl
    clear e0
    go_upto_region 9 with fail
    go_cut [9] from 60 to 119 (fun s9 wx => s9 = .bool fr ∧ wx = wc)
    case first =>
      by_cases hk0 : 0 < kn
      · obtain rfl : fr = true := by rw [hfr]; simp [hk0]
        clear hfr h36
        go_wp2_with fail
        go_meet
        exact ⟨rfl, rfl⟩
      · obtain rfl : kn = 0 := by omega
        have HFR := Lib.hid (show (((a[0]'hap).toNat : Int) != 36) = fr by rw [h36, hfr]; simp)
        clear hfr h36
        go_wp2_with fail
        go_meet
        exact ⟨congrArg Value.bool HFR.out, rfl⟩
    case rest =>
      obtain ⟨rfl, rfl⟩ := hcut
      generalize wc = wk at *
      clear hfr h36 hki hkt hL0
      have hkc : (kn : Int) ≤ cl := by have := hrd.1; omega
      have hk1 : kn + 1 ≤ L.length := hkl
      have hLc := hrd.1
      have hcm := hrd.2
      unfold maxLen at hcm
      have hz : Below wk.heap.size wk wk := Below.refl _ _
      go_wp2_with (at_builtin; refine append_texts (w0 := wk) rfl _ _ rfl hz (Texts.nil _ _) rfl ⟨gl, 0, none⟩ kn cl rfl (by rw [List.length_take]; omega) (rd_take HTC.out kn) (by simp; omega) ?_)
      intro v1 w1' ht1 hb1
      have HTC1 := Lib.hid (HTC.out.then (Fr.of_below hb1))
      go_wp2_with (at_builtin; refine append_texts (w0 := wk) rfl _ _ rfl (hb1.alloc hb1.size _) (ht1.alloc _) rfl ⟨w1'.heap.size, 0, none⟩ 1 1 rfl rfl (rd_one w1' ⟨#[43]⟩) (by simp; omega) ?_)
      intro v2 w2' ht2 hb2
      have HTC2 := Lib.hid (HTC.out.then (Fr.of_below hb2))
      clear ht1 hb1 HTC1
      obtain ⟨pa, pn, pc, rfl, hp1, hp2⟩ : ∃ pa pn pc, v2 = .slice pa pn pc ∧ pn ≤ pc ∧ pc ≤ 2 ^ 63 - 1 := by obtain ⟨x, y, e⟩ := ht2.form; subst e; exact ⟨_, _, _, rfl, ht2.rd.2.1, ht2.rd.2.2⟩
      go_upto_region 13 with fail
      go_cut [10] from 55 to 119 (fun s10 wx => Texts wx wk.heap.size s10 (plusL L kn) ∧ Below wk.heap.size wk wx)
      case first =>
        have hpl : plusL L kn = (L.take kn ++ [ls ⟨#[43]⟩]) ++ L.drop (kn + 1) := by
          unfold plusL
          rw [List.append_assoc]; rfl
        by_cases hcc : cl = kn + 1
        · subst hcc
          have hd : L.drop (kn + 1) = [] := List.drop_eq_nil_of_le (by omega)
          have ht4 : Texts w2' wk.heap.size (.slice pa pn pc) (plusL L kn) := by rw [hpl, hd, List.append_nil]; exact ht2
          obtain ⟨gp, rfl, _, _, _⟩ := ht2.at_ (by simp)
          go_wp2_with fail
          go_meet
          exact ⟨ht4, hb2⟩
        · have hcc' : kn + 1 < cl := by omega
          go_wp2_with (at_builtin; refine append_texts (w0 := wk) rfl _ _ rfl hb2 ht2 rfl ⟨gl, kn + 1, none⟩ (L.length - (kn + 1)) (cl - (kn + 1)) rfl (by rw [List.length_drop]) (rd_drop HTC2.out (kn + 1)) (by simp; omega) ?_)
          intro v3 w3' ht3 hb3
          go_wp2_with fail
          go_meet
          exact ⟨by unfold plusL; exact ht3, hb3⟩
      case rest =>
        obtain ⟨htp, hbp⟩ := hcut
        have HTC3 := Lib.hid (HTC.out.then (Fr.of_below hbp))
        have BW := Lib.hid (BC.out.trans (hbp.mono BC.out.size))
        have HTP := Lib.hid (htp.base BC.out.size)
        have hz2 : Below wc.heap.size wc wc := Below.refl _ _
        clear htp hbp ht2 hb2 hz
        go_wp2_with (at_builtin; refine append_texts (w0 := wc) rfl _ _ rfl hz2 (Texts.nil _ _) rfl ⟨gl, 0, none⟩ kn cl rfl (by rw [List.length_take]; omega) (rd_take HTC3.out kn) (by simp; omega) ?_)
        intro v4 w4' ht1 hb1
        go_wp2_with (at_builtin; refine append_texts (w0 := wc) rfl _ _ rfl (hb1.alloc hb1.size _) (ht1.alloc _) rfl ⟨w4'.heap.size, 0, none⟩ 1 1 rfl rfl (rd_one w4' ⟨#[35]⟩) (by simp; omega) ?_)
        intro v5 w5' ht5 hb5
        have ht5 : Texts w5' wc.heap.size v5 (hashL L kn) := ht5
        have hTT : Two16 w w5' (.slice (some ⟨gl, 0, none⟩) L.length cl) u10 v5 L (plusL L kn) (hashL L kn) :=
          ⟨BW.out.trans (hb5.mono BW.out.size), HTC3.out.below hb5, HTP.out.below hb5, ht5.base BW.out.size⟩
        have TT := Lib.hid hTT
        have hsz : ∀ x ∈ L, x.length ≤ 300 := HLV.out.size
        have hjp : (joinL (plusL L kn)).length ≤ 20000 := by
          have h1 := join_len (L := plusL L kn) (n := 300) fun x hx => by
            rcases plus_in hx with h | rfl
            · exact hsz x h
            · decide
          have h2 : (plusL L kn).length ≤ 32 := by
            unfold plusL
            simp only [List.length_append, List.length_take, List.length_cons, List.length_drop]; omega
          have h3 : (plusL L kn).length * (300 + 1) ≤ 32 * 301 := Nat.mul_le_mul_right _ h2
          omega
        have hjh : (joinL (hashL L kn)).length ≤ 20000 := by
          have h1 := join_len (L := hashL L kn) (n := 300) fun x hx => by
            unfold hashL at hx
            rcases List.mem_append.1 hx with h | h
            · exact hsz x (List.mem_of_mem_take h)
            · obtain rfl := List.mem_singleton.1 h; decide
          have h2 : (hashL L kn).length ≤ 33 := by
            unfold hashL
            simp only [List.length_append, List.length_take, List.length_singleton]; omega
          have h3 : (hashL L kn).length * (300 + 1) ≤ 33 * 301 := Nat.mul_le_mul_right _ h2
          omega
        have hjl : (joinL (longL L)).length ≤ 20000 := by
          have h1 := join_len (L := longL L) (n := 300) fun x hx => by
            unfold longL at hx
            rcases List.mem_append.1 hx with h | h
            · exact hsz x h
            · obtain rfl := List.mem_singleton.1 h; decide
          have h2 : (longL L).length ≤ 33 := by
            unfold longL
            simp only [List.length_append, List.length_singleton]; omega
          have h3 : (longL L).length * (300 + 1) ≤ 33 * 301 := Nat.mul_le_mul_right _ h2
          omega
        have hnp : (plusL L kn).length ≤ 1000000 := by
          unfold plusL
          simp only [List.length_append, List.length_take, List.length_cons, List.length_drop]; omega
        have hnh : (hashL L kn).length ≤ 1000000 := by
          unfold hashL
          simp only [List.length_append, List.length_take, List.length_singleton]; omega
        have hnl : (longL L).length ≤ 1000000 := by
          unfold longL
          simp only [List.length_append, List.length_singleton]; omega
        obtain ⟨ua, uc, rfl⟩ := HTP.out.form
        obtain ⟨va, vc, rfl⟩ := ht5.form
        clear ht1 hb1 ht5 hb5 hTT HTC3 BW HTP hz2
        have F1 := Lib.hid (show (bs (joinL (plusL L kn))).size ≤ 100000 by rw [bs_size]; omega)
        have F2 := Lib.hid (show (bs (joinL (hashL L kn))).size ≤ 100000 by rw [bs_size]; omega)
        have F3 := Lib.hid (show (bs (joinL (longL L))).size ≤ 100000 by rw [bs_size]; omega)
        have J1 := Lib.hid (fun W (h : Two16 w W (.slice (some ⟨gl, 0, none⟩) L.length cl) (.slice ua (plusL L kn).length uc) (.slice va (hashL L kn).length vc) L (plusL L kn) (hashL L kn)) => (join_any (c := uc) h.p.rd.1 (by omega) hnp).mono fun _ _ ⟨e, hb⟩ => And.intro e (hb ▸ h))
        have J2 := Lib.hid (fun W (h : Two16 w W (.slice (some ⟨gl, 0, none⟩) L.length cl) (.slice ua (plusL L kn).length uc) (.slice va (hashL L kn).length vc) L (plusL L kn) (hashL L kn)) => (join_any (c := vc) h.h.rd.1 (by omega) hnh).mono fun _ _ ⟨e, hb⟩ => And.intro e (hb ▸ h))
        have J3 := Lib.hid (fun W A c (h : Rd W A (longL L)) => join_any (c := c) h (by omega) hnl)
        have M1 := Lib.hid (fun W (h : Two16 w W (.slice (some ⟨gl, 0, none⟩) L.length cl) (.slice ua (plusL L kn).length uc) (.slice va (hashL L kn).length vc) L (plusL L kn) (hashL L kn)) => (P1'.out ▸ CM.out _ F1.out W h.old).mono fun _ _ ⟨e, hb⟩ => And.intro e (h.next hb))
        have M2 := Lib.hid (fun W (h : Two16 w W (.slice (some ⟨gl, 0, none⟩) L.length cl) (.slice ua (plusL L kn).length uc) (.slice va (hashL L kn).length vc) L (plusL L kn) (hashL L kn)) => (P2'.out ▸ CM.out _ F2.out W h.old).mono fun _ _ ⟨e, hb⟩ => And.intro e (h.next hb))
        have M3 := Lib.hid (fun (h : L.length ≤ 31) W (hb : Below w.heap.size w W) => P3.out h ▸ CM.out _ F3.out W hb)
        have HLL := Lib.hid (show L.length ≤ (longL L).length by unfold longL; simp)
        clear hjp hjh hjl hnp hnh hnl F1 F2 F3 P1' P2' P3 CM hsz HLV HC
        have hpL : (plusL L kn).length = L.length := by
          unfold plusL
          simp only [List.length_append, List.length_take, List.length_cons, List.length_drop]; omega
        have hlon : longL L = ([] ++ L) ++ [ls ⟨#[35]⟩] := rfl
        have HLO := Lib.hid hlon
        generalize bs (joinL (longL L)) = s3 at *
        generalize bs (joinL (plusL L kn)) = s1 at *
        generalize bs (joinL (hashL L kn)) = s2 at *
        clear hpL hlon
        generalize plusL L kn = LP at *
        generalize hashL L kn = LH at *
        generalize longL L = LL at *
        have hT := TT.out
        have hkc2 := hkc
        clear TT HTC HTC2 hkc hk1 hp1 hp2 hkl hlne
        cases fr
        all_goals
          go_wp2_with fail
          refine (J1.out _ hT).mono ?_
          rintro x w6 ⟨rfl, h6⟩
          go_wp2_with fail
          refine (M1.out _ h6).mono ?_
          rintro x w7 ⟨rfl, h7⟩
          clear h6
          go_wp2_with fail
          refine (J2.out _ h7).mono ?_
          rintro x w8 ⟨rfl, h8⟩
          clear h7
          go_wp2_with fail
          refine (M2.out _ h8).mono ?_
          rintro x w9 ⟨rfl, h9⟩
          clear h8 hT
          have HL9 := Lib.hid h9.l
          have HB9 := Lib.hid h9.old
          have hz9 : Below w9.heap.size w9 w9 := Below.refl _ _
          clear h9 J1 J2 M1 M2
          go_wp2_with (at_builtin; refine append_texts (w0 := w9) rfl _ _ rfl (hz9.alloc hz9.size _) (texts_empty (Nat.le_refl _)) rfl ⟨gl, 0, none⟩ L.length cl rfl rfl (Texts.rd (B := w.heap.size) (HL9.out.alloc _)).1 (by simp; omega) ?_)
          intro v10 w10 ht10 hb10
          go_wp2_with (at_builtin; refine append_texts (w0 := w9) rfl _ _ rfl (hb10.alloc hb10.size _) (ht10.alloc _) rfl ⟨w10.heap.size, 0, none⟩ 1 1 rfl rfl (rd_one w10 ⟨#[35]⟩) (by simp; omega) ?_)
          intro v11 w11 ht11 hb11
          have ht11 : Texts w11 w9.heap.size v11 LL := by rw [HLO.out]; exact ht11
          obtain ⟨xa, xc, rfl⟩ := ht11.form
          have HB11 := Lib.hid (HB9.out.trans (hb11.mono HB9.out.size))
          have HR := Lib.hid ht11.rd.1
          clear ht10 hb10 ht11 hb11 hz9
          go_wp2_with fail
          refine (J3.out _ _ _ HR.out).mono ?_
          rintro x w12 ⟨rfl, rfl⟩
          clear J3 HR
          by_cases h32 : L.length = 32
          · clear M3
            go_wp2_with fail
            refine (C8.out _ HB11.out).mono ?_
            rintro x w13 ⟨rfl, hb13⟩
            have B13 := Lib.hid (HB11.out.trans (hb13.mono HB11.out.size))
            clear hb13
            go_wp2_with fail
            go_ret
            exact ⟨rfl, B13.out⟩
          · have M4 := Lib.hid (M3.out (by omega))
            clear M3
            go_wp2_with fail
            refine (M4.out _ HB11.out).mono ?_
            rintro x w13 ⟨rfl, hb13⟩
            have B13 := Lib.hid (HB11.out.trans (hb13.mono HB11.out.size))
            clear hb13
            go_wp2_with fail
            refine (C8.out _ B13.out).mono ?_
            rintro x w14 ⟨rfl, hb14⟩
            have B14 := Lib.hid (B13.out.trans (hb14.mono B13.out.size))
            clear hb14
            go_wp2_with fail
            go_ret
            exact ⟨rfl, B14.out⟩
theorem topicWide_walk (S : Nat → Addr) (a b : ByteArray) (c : Int) (w : World) (he : EnvT w S) (hs : a.size ≤ maxLen) (hs2 : b.size ≤ maxLen) (hw : (Lit.int .u8 c).wf = true) : Calls Tryd.prog 7 #[.string a, .string b, .int .u8 c] w fun x w' => x = .returned (.bool true) ∧ Below w.heap.size w w' := by
  obtain ⟨hc0, hc1⟩ : 0 ≤ c ∧ c ≤ 255 := by simpa [Lit.wf, IntKind.min, IntKind.max, IntKind.signed, IntKind.bits] using hw
  refine topicWide_short S a b c w he hs hs2 fun h1 h2 hn => ?_
  obtain ⟨n, rfl⟩ : ∃ n : Nat, c = n := ⟨c.toNat, by omega⟩
  exact topicWide_name S a b n w he h1 h2 (by omega) hn
end
end Go.Proofs.YtibjnaccdhcbcaaDoor
