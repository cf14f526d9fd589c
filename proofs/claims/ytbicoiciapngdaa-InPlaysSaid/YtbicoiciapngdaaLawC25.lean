/- What is proved here: whatever comes in, is done and released, the numbers are the document's (InPlays answers true). No conditions but those of the values themselves. -/
import Derived.Test.YtbicoiciapngdaaPlay25
import Derived.Test.YtbicoiciapngdaaLawA25
import Derived.Deep.CutBlock
import Derived.Deep.DeepCutAuto
import Derived.Deep.RegionHeld3
import Derived.Outline
namespace Go.Proofs.Ytbicoiciapngdaa
open Go.RowKit Go.Extern.Stop Go.Stop Go.Extern Go.Maps

/-- All of them, and where the act and the document's row lie. -/
structure Row25 (w0 w : World) (g gy gz g0 gs : Nat) (n : Int) (s : Q25) (L : PL) (ga : Nat) (kd id qos : Int) (A : Option Addr) (cap : Nat) : Prop where
  play : Play w0 w g gy gz g0 gs n s L
  act : Blk w ga 83 #[.int .i64 kd, .int .i64 id, .int .i64 qos]
  row : w.cell? ⟨gy, 1, none⟩ = some (.slice A L.length cap)
section
variable {w0 w : World} {g gy gz g0 gs : Nat} {n : Int} {s : Q25} {L : PL} {ga : Nat} {kd id qos : Int} {A : Option Addr} {cap : Nat}
theorem Row25.same (h : Row25 w0 w g gy gz g0 gs n s L ga kd id qos A cap) {w' : World} (hf : Fr [] w w') : Row25 w0 w' g gy gz g0 gs n s L ga kd id qos A cap :=
  ⟨h.play.same hf, h.act.fr hf (by simp), (hf.cell (lt_of_cell' h.row) (by simp)).trans h.row⟩
theorem Row25.drew (h : Row25 w0 w g gy gz g0 gs n s L ga kd id qos A cap) : Row25 w0 w.drew g gy gz g0 gs n s L ga kd id qos A cap := h.same (Fr.refl _ _).drew
theorem Row25.nob (h : Row25 w0 w g gy gz g0 gs n s L ga kd id qos A cap) {pv : Value} (hp : pv = .pointer none ∨ pv = .pointer (some ⟨g0, 0, none⟩)) : NobodyI w pv := by
  rcases hp with rfl | rfl
  · exact .inl rfl
  · exact .inr ⟨g0, rfl, h.play.zero⟩
theorem row25_len (h : Row25 w0 w g gy gz g0 gs n s L ga kd id qos A cap) : Calls Try.prog 49 #[.pointer (some ⟨g, 0, none⟩)] w fun e w' => e = .returned (.int .i64 (s.2 : Nat)) ∧ Row25 w0 w' g gy gz g0 gs n s L ga kd id qos A cap :=
  (own_len h.play.own).mono fun _ _ ⟨e, hw⟩ => ⟨e, hw ▸ h⟩
theorem row25_no_do (h : Row25 w0 w g gy gz g0 gs n s L ga kd id qos A cap) (hid : (Lit.int .i64 id).wf = true) {pv : Value} (hp : pv = .pointer none ∨ pv = .pointer (some ⟨g0, 0, none⟩)) :
    Calls Try.prog 45 #[pv, .agg #[.int .i64 kd, .int .i64 id, .int .i64 qos]] w fun e w' => e = .returned (.tuple #[.int .i64 (none25 kd qos), .bool false]) ∧ Row25 w0 w' g gy gz g0 gs n s L ga kd id qos A cap :=
  (noi_do (h.nob hp) kd id qos hid).mono fun _ _ ⟨e, hf⟩ => ⟨e, h.same hf⟩
theorem row25_no_len (h : Row25 w0 w g gy gz g0 gs n s L ga kd id qos A cap) {pv : Value} (hp : pv = .pointer none ∨ pv = .pointer (some ⟨g0, 0, none⟩)) :
    Calls Try.prog 49 #[pv] w fun e w' => e = .returned (.int .i64 0) ∧ Row25 w0 w' g gy gz g0 gs n s L ga kd id qos A cap :=
  (noi_len (h.nob hp)).mono fun _ _ ⟨e, hw⟩ => ⟨e, hw ▸ h⟩
theorem row25_made (h : Play w0 w g gy gz g0 gs n s L) : ∃ A cap, w.cell? ⟨gy, 1, none⟩ = some (.slice A L.length cap) := by
  obtain ⟨⟨v, b1, r1⟩, _⟩ := h.y
  obtain ⟨a, cap, rfl⟩ := own_slice r1
  exact ⟨a, cap, b1.cell 1⟩
end
set_option maxHeartbeats 4000000 in
set_option maxRecDepth 100000 in
theorem inPlays_walk (n : Int) (a : Option Addr) (len cap : Nat) (xs : Nat → Act25) (w : World) (_hn : -9223372036854775808 ≤ n ∧ n ≤ 9223372036854775807) (hl : len ≤ maxLen) (h : ActsOf5 w a len xs) :
    Calls Try.prog 12 #[.int .i64 n, .slice a len cap] w fun x w' => x = .returned (.bool true) ∧ Below w.heap.size w w' := by
  have HA := Lib.hid h
  unfold maxLen at hl
  clear h
  by_cases hl6 : 60 < len
  · go_enter Try.func12, Try.ntmps12
    go_wp2_with fail
    refine (in_awake _).mono ?_
    rintro e w' ⟨rfl, hb⟩
    go_wp2
    go_ret
    exact ⟨rfl, hb⟩
  · go_enter Try.func12, Try.ntmps12
    go_wp2_with fail
    refine (own_in_new n (Below.refl _ _)).mono ?_
    rintro e w1 ⟨g, rfl, hd⟩
    have HS := Lib.hid (play_start hd)
    clear hd
    go_wp2
    obtain ⟨gy, hgy⟩ : ∃ x, x = w1.heap.size := ⟨_, rfl⟩
    rw [← hgy] at HS ⊢
    clear hgy
    obtain ⟨gz, hgz⟩ : ∃ x, x = gy + 1 := ⟨_, rfl⟩
    rw [← hgz] at HS ⊢
    clear hgz
    obtain ⟨g0, hg0⟩ : ∃ x, x = gz + 1 := ⟨_, rfl⟩
    rw [← hg0] at HS ⊢
    clear hg0
    obtain ⟨gs, hgs⟩ : ∃ x, x = g0 + 1 := ⟨_, rfl⟩
    rw [← hgs] at HS ⊢
    clear hgs
    go_loopw [9] (fun i wr => ∃ (k : Nat) (s : Q25) (L : PL), k ≤ len ∧ i = .int .i64 k ∧ Play w wr g gy gz g0 gs n s L ∧ Same25 s L ∧ L.length ≤ k) (fun i _ => len - (intOf i).toNat)
    case atStart => exact ⟨0, _, _, Nat.zero_le _, rfl, HS.out, Same25.start, Nat.le_refl _⟩
    case round =>
      obtain ⟨k, s, L, hk, rfl, hd, hsm, hLk⟩ := hrel
      by_cases hlt : k < len
      · obtain ⟨b, off, rfl, hac⟩ : ∃ b off, a = some ⟨b, off, none⟩ ∧ Acts5 w b off len xs := HA.out.resolve_left (by omega)
        obtain ⟨c0, c1, c2, hw⟩ := (hac.below hd.own.below) k hlt
        have hslen : s.2 ≤ 50000 := by rw [hsm.len]; omega
        have hd2 := hd.same ((Fr.refl _ _).alloc (.cells #[.int .i64 (xs k).kind, .int .i64 (xs k).id, .int .i64 (xs k).qos] 83))
        have HC := Lib.hid (own_do25 hd2.own hslen (xs k).kind (xs k).id (xs k).qos hw)
        have hnew := Blk.made wr 83 #[.int .i64 (xs k).kind, .int .i64 (xs k).id, .int .i64 (xs k).qos]
        have HNEW := Lib.hid hnew
        have HD1 := Lib.hid hd2
        have HSM := Lib.hid hsm
        have HW := Lib.hid hw
        generalize (xs k).kind = kd at *
        generalize (xs k).id = id at *
        generalize (xs k).qos = qos at *
        clear hac hd hd2 hw hsm hnew hslen
        obtain ⟨ga, hga⟩ : ∃ x, x = wr.heap.size := ⟨_, rfl⟩
        rw [← hga] at HNEW
        obtain ⟨r, hr⟩ : ∃ r, do25 n s kd id qos = r := ⟨_, rfl⟩
        rw [hr] at HC
        obtain ⟨P, ok, s'⟩ := r
        have HR := Lib.hid hr
        clear hr
        go_wp2_with fail
        refine (HC.out).mono ?_
        rintro e w3 ⟨rfl, hd3, hkp⟩
        rw [← hga]
        clear hga
        have HD3 := Lib.hid (HD1.out.kept hd3 hkp)
        have HA3 := Lib.hid (hkp _ _ _ HNEW.out)
        have a0 := HA3.out.cell 0
        have a1 := HA3.out.cell 1
        have a2 := HA3.out.cell 2
        clear hd3 hkp c0 c1 c2
        obtain ⟨R, hR⟩ : ∃ R, none25 kd qos = R := ⟨_, rfl⟩
        have HRN := Lib.hid hR
        clear hR
        go_upto_block 2 with fail
        go_cut [13, 14, 15] from 33 to 123 (fun s13 s14 s15 wx => s13 = .int .i64 P ∧ s14 = .bool ok ∧ s15 = .int .i64 R ∧ ∃ L', Play w wx g gy gz g0 gs n s' L' ∧ Same25 s' L' ∧ L'.length ≤ k + 1 ∧ Blk wx ga 83 #[.int .i64 kd, .int .i64 id, .int .i64 qos])
        case first =>
          have hbw := HD3.out.own.below.size
          by_cases h1 : kd = 1
          · subst h1
            have hr := HR.out
            unfold do25 at hr
            rw [if_pos rfl] at hr
            simp only [Prod.mk.injEq] at hr
            obtain ⟨hP, rfl, hs'⟩ := hr
            have HT := Lib.hid (refi_take HD3.out.y hbw (by omega) HSM.out id qos)
            rw [hP, hs'] at HT
            clear hP hs'
            go_wp2_with fail
            refine (HT.out).mono ?_
            rintro e w4 ⟨rfl, L', hy, hsm', hl', hnear⟩
            have HD4 := Lib.hid (HD3.out.near hy hnear)
            have HA4 := Lib.hid (near_a HD3.out hnear HA3.out)
            have HSM4 := Lib.hid hsm'
            have HZ := Lib.hid (refz_take HD4.out.z id qos)
            rw [HRN.out] at HZ
            have b1 := HA4.out.cell 1
            have b2 := HA4.out.cell 2
            clear hy hsm' hnear a0 a1 a2
            go_wp2_with fail
            refine (HZ.out).mono ?_
            rintro e w5 ⟨rfl, hf⟩
            have HD5 := Lib.hid (HD4.out.same hf)
            have HA5 := Lib.hid (HA4.out.fr hf (by simp))
            clear hf b1 b2
            go_wp2_with fail
            go_meet
            case rel => exact ⟨rfl, rfl, rfl, L', HD5.out, HSM4.out, by omega, HA5.out⟩
          · have n1 : ((kd : Int) == 1) = false := beq_eq_false_iff_ne.2 h1
            obtain rfl : R = 0 := by rw [← HRN.out]; unfold none25; rw [if_neg h1]
            by_cases h2 : kd = 2
            · subst h2
              have hr := HR.out
              unfold do25 at hr
              rw [if_neg (by decide), if_pos rfl] at hr
              simp only [Prod.mk.injEq] at hr
              obtain ⟨rfl, hok, hs'⟩ := hr
              have HT := Lib.hid (refi_done HD3.out.y hbw (by omega) HSM.out id)
              rw [hok, hs'] at HT
              clear hok hs' n1 h1
              go_wp2_with fail
              refine (HT.out).mono ?_
              rintro e w4 ⟨rfl, L', hy, hsm', hl', hnear⟩
              have HD4 := Lib.hid (HD3.out.near hy hnear)
              have HA4 := Lib.hid (near_a HD3.out hnear HA3.out)
              have HSM4 := Lib.hid hsm'
              clear hy hsm' hnear a0 a1 a2
              go_wp2_with fail
              go_meet
              case rel => exact ⟨rfl, rfl, rfl, L', HD4.out, HSM4.out, by omega, HA4.out⟩
            · have n2 : ((kd : Int) == 2) = false := beq_eq_false_iff_ne.2 h2
              by_cases h3 : kd = 3
              · subst h3
                have hr := HR.out
                unfold do25 at hr
                rw [if_neg (by decide), if_neg (by decide), if_pos rfl] at hr
                simp only [Prod.mk.injEq] at hr
                obtain ⟨rfl, hok, hs'⟩ := hr
                have HT := Lib.hid (refi_release HD3.out.y hbw (by omega) HSM.out id)
                rw [hok, hs'] at HT
                clear hok hs' n1 h1 n2 h2
                go_wp2_with fail
                refine (HT.out).mono ?_
                rintro e w4 ⟨rfl, L', hy, hsm', hl', hnear⟩
                have HD4 := Lib.hid (HD3.out.near hy hnear)
                have HA4 := Lib.hid (near_a HD3.out hnear HA3.out)
                have HSM4 := Lib.hid hsm'
                clear hy hsm' hnear a0 a1 a2
                go_wp2_with fail
                go_meet
                case rel => exact ⟨rfl, rfl, rfl, L', HD4.out, HSM4.out, by omega, HA4.out⟩
              · have n3 : ((kd : Int) == 3) = false := beq_eq_false_iff_ne.2 h3
                have hr := HR.out
                unfold do25 at hr
                rw [if_neg h1, if_neg h2, if_neg h3] at hr
                simp only [Prod.mk.injEq] at hr
                obtain ⟨rfl, rfl, hs'⟩ := hr
                have HSM3 := Lib.hid HSM.out
                rw [hs'] at HSM3
                clear hs' h1 h2 h3 a1 a2
                go_wp2_with fail
                go_meet
                case rel => exact ⟨rfl, rfl, rfl, L, HD3.out, HSM3.out, by omega, HA3.out⟩
        case rest =>
          obtain ⟨rfl, rfl, rfl, L', hd4, hs4, hl4, ha4⟩ := hcut
          have HS4 := Lib.hid hs4
          have hlen := hs4.len
          obtain ⟨A', cap', hrow⟩ := row25_made hd4
          have hd5 : Row25 w wc g gy gz g0 gs n s' L' ga kd id qos A' cap' := ⟨hd4, ha4, hrow⟩
          have H1 := Lib.hid (fun W (h : Row25 w W g gy gz g0 gs n s' L' ga kd id qos A' cap') => row25_len h)
          rw [hlen] at H1
          have hS : wc.cell? ⟨gy, 1, none⟩ = some (.slice A' L'.length cap') := hrow
          have KS := Lib.hid (fun W (h : Row25 w W g gy gz g0 gs n s' L' ga kd id qos A' cap') => h.row)
          clear hs4 hrow hd4 ha4 hlen
          go_wp2_with fail
          go_region_held3 (fun w' => w'.cell? ⟨gy, 1, none⟩ = some (.slice A' L'.length cap'))
            (first | assumption | (exact KS.out _ (by assumption)))
            (first
              | (go_at_call_of 49 (Value.pointer (some ⟨g, 0, none⟩)); (with_reducible refine (H1.out _ ?_).mono ?_); (first | assumption | exact Row25.drew (by assumption)); rintro x w6 ⟨rfl, hd6⟩))
          have HD6 := Lib.hid hd6
          clear hS hd5 hd6
          go_wp2_with fail
          go_loopw [16] (fun j W => ∃ q : Nat, q ≤ 2 ∧ j = .int .i64 q ∧ Row25 w W g gy gz g0 gs n s' L' ga kd id qos A' cap') (fun j _ => 2 - (intOf j).toNat)
          case atStart => exact ⟨0, by omega, rfl, HD6.out⟩
          case round =>
            obtain ⟨q, hq, rfl, hdi⟩ := hrel
            rcases (show q = 0 ∨ q = 1 ∨ q = 2 by omega) with rfl | rfl | rfl
            · clear hq
              have hS : wr.cell? ⟨gs, 0, none⟩ = some (Value.pointer none) ∧ wr.cell? ⟨ga, 0, none⟩ = some (.int .i64 kd) ∧ wr.cell? ⟨ga, 1, none⟩ = some (.int .i64 id) ∧ wr.cell? ⟨ga, 2, none⟩ = some (.int .i64 qos) := ⟨hdi.play.nob.cell 0, hdi.act.cell 0, hdi.act.cell 1, hdi.act.cell 2⟩
              have KS := Lib.hid (fun W (h : Row25 w W g gy gz g0 gs n s' L' ga kd id qos A' cap') => And.intro (h.play.nob.cell 0) (And.intro (h.act.cell 0) (And.intro (h.act.cell 1) (h.act.cell 2))))
              have H1 := Lib.hid (fun W (h : Row25 w W g gy gz g0 gs n s' L' ga kd id qos A' cap') => row25_no_do h HW.out (pv := Value.pointer none) (.inl rfl))
              have H2 := Lib.hid (fun W (h : Row25 w W g gy gz g0 gs n s' L' ga kd id qos A' cap') => row25_no_len h (pv := Value.pointer none) (.inl rfl))
              rw [HRN.out] at H1
              go_wp2_with fail
              go_region_held3 (fun w' => w'.cell? ⟨gs, 0, none⟩ = some (Value.pointer none) ∧ w'.cell? ⟨ga, 0, none⟩ = some (.int .i64 kd) ∧ w'.cell? ⟨ga, 1, none⟩ = some (.int .i64 id) ∧ w'.cell? ⟨ga, 2, none⟩ = some (.int .i64 qos))
                (first | assumption | (exact KS.out _ (by assumption)))
                (first
                  | (go_at_call_of 45 (Value.pointer none); (with_reducible refine (H1.out _ ?_).mono ?_); (first | assumption | exact Row25.drew (by assumption)); rintro x w8 ⟨rfl, hd8⟩))
              clear hS hdi
              have hq0 := hd8.play.nob.cell 0
              have HD8 := Lib.hid hd8
              have HL8 := Lib.hid (H2.out _ hd8)
              clear hd8
              go_wp2_with fail
              refine (HL8.out).mono ?_
              rintro x w9 ⟨rfl, hd9⟩
              have HD9 := Lib.hid hd9
              clear hd9 hq0
              go_wp2_with fail
              go_roundw
              case rel => exact ⟨0 + 1, by omega, by go_num, HD9.out⟩
              case measure => simp [intOf]
            · clear hq
              have hS : wr.cell? ⟨gs, 1, none⟩ = some (Value.pointer (some ⟨g0, 0, none⟩)) ∧ wr.cell? ⟨ga, 0, none⟩ = some (.int .i64 kd) ∧ wr.cell? ⟨ga, 1, none⟩ = some (.int .i64 id) ∧ wr.cell? ⟨ga, 2, none⟩ = some (.int .i64 qos) := ⟨hdi.play.nob.cell 1, hdi.act.cell 0, hdi.act.cell 1, hdi.act.cell 2⟩
              have KS := Lib.hid (fun W (h : Row25 w W g gy gz g0 gs n s' L' ga kd id qos A' cap') => And.intro (h.play.nob.cell 1) (And.intro (h.act.cell 0) (And.intro (h.act.cell 1) (h.act.cell 2))))
              have H1 := Lib.hid (fun W (h : Row25 w W g gy gz g0 gs n s' L' ga kd id qos A' cap') => row25_no_do h HW.out (pv := Value.pointer (some ⟨g0, 0, none⟩)) (.inr rfl))
              have H2 := Lib.hid (fun W (h : Row25 w W g gy gz g0 gs n s' L' ga kd id qos A' cap') => row25_no_len h (pv := Value.pointer (some ⟨g0, 0, none⟩)) (.inr rfl))
              rw [HRN.out] at H1
              go_wp2_with fail
              go_region_held3 (fun w' => w'.cell? ⟨gs, 1, none⟩ = some (Value.pointer (some ⟨g0, 0, none⟩)) ∧ w'.cell? ⟨ga, 0, none⟩ = some (.int .i64 kd) ∧ w'.cell? ⟨ga, 1, none⟩ = some (.int .i64 id) ∧ w'.cell? ⟨ga, 2, none⟩ = some (.int .i64 qos))
                (first | assumption | (exact KS.out _ (by assumption)))
                (first
                  | (go_at_call_of 45 (Value.pointer (some ⟨g0, 0, none⟩)); (with_reducible refine (H1.out _ ?_).mono ?_); (first | assumption | exact Row25.drew (by assumption)); rintro x w8 ⟨rfl, hd8⟩))
              clear hS hdi
              have hq0 := hd8.play.nob.cell 1
              have HD8 := Lib.hid hd8
              have HL8 := Lib.hid (H2.out _ hd8)
              clear hd8
              go_wp2_with fail
              refine (HL8.out).mono ?_
              rintro x w9 ⟨rfl, hd9⟩
              have HD9 := Lib.hid hd9
              clear hd9 hq0
              go_wp2_with fail
              go_roundw
              case rel => exact ⟨1 + 1, by omega, by go_num, HD9.out⟩
              case measure => simp [intOf]
            · have HDi := Lib.hid hdi
              clear hdi
              go_wp2_with fail
              go_roundw
              case rel => exact ⟨k + 1, _, _, by omega, by go_num, HDi.out.play, HS4.out, hl4⟩
              case measure => simp [intOf]; omega
      · have HB := Lib.hid hd.own.below
        clear hd hsm
        go_wp2_with fail
        refine (in_awake _).mono ?_
        rintro e w8 ⟨rfl, hb⟩
        have HB8 := Lib.hid (HB.out.trans (hb.mono HB.out.size))
        clear hb
        go_wp2
        go_ret
        exact ⟨rfl, HB8.out⟩
end Go.Proofs.Ytbicoiciapngdaa
