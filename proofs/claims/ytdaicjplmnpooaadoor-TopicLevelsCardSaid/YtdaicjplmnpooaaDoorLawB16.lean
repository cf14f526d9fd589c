/- What is proved here: TopicLevels answers true for every text. Conditions: the two errors that utf.Check names are errors. -/
import Derived.Test.YtdaicjplmnpooaaDoorPiec16
namespace Go.Proofs.YtdaicjplmnpooaaDoor
open Go.RowKit Go.Extern.Stop Go.Stop Go.Extern
section
set_option maxHeartbeats 2000000 in
theorem topicLevels_walk (S : Nat → Addr) (s : ByteArray) (w : World) (he : EnvT w S) (hs : s.size ≤ maxLen) : Calls Tryd.prog 8 #[.string s] w fun x w' => x = .returned (.bool true) ∧ Below w.heap.size w w' := by
  unfold maxLen at hs
  by_cases hb : 300 < s.size
  · have HA := Lib.hid (awake16 he)
    clear he
    go_enter Tryd.func8, Tryd.ntmps8
    go_wp2_with fail
    refine (HA.out).mono ?_
    rintro x w1 ⟨rfl, hb⟩
    go_wp2_with fail
    go_ret
    exact ⟨rfl, hb⟩
  · have hsm : s.size ≤ 300 := by omega
    have E := Lib.hid (fun w' (hb : Below w.heap.size w w') => he.later hb)
    have C0 := Lib.hid (levels_any (w := w) s (by omega))
    have C1 := Lib.hid (fun w' (hb : Below w.heap.size w w') => isName_any s (by omega) (E.out w' hb))
    have C8 := Lib.hid (fun w' (hb : Below w.heap.size w w') => awake16 (E.out w' hb))
    have hmax := count_le s
    have hpos : 0 < (spl (ls s)).length := by rw [spl_len]; omega
    have HX := Lib.hid (fun k (hk : k < (spl (ls s)).length) => And.intro (spl_le (getD_mem hk)) (And.intro (spl_mem (getD_mem hk)) (fun hn hne => name_part (s := s) hn (getD_mem hk) hne)))
    have HJ := Lib.hid (join_spl (ls s))
    rw [ls_size] at HX
    unfold LevSays at C0
    clear hb he
    obtain ⟨nb, hnb⟩ : ∃ x, nameB s = x := ⟨_, rfl⟩
    rw [hnb] at C1 HX
    clear hnb
    obtain ⟨L, hL⟩ : ∃ x, spl (ls s) = x := ⟨_, rfl⟩
    rw [hL] at C0 hmax hpos HX HJ
    clear hL
    go_enter Tryd.func8, Tryd.ntmps8
    go_wp2_with fail
    refine (C0.out).mono ?_
    rintro x w1 ⟨v, rfl, ht, hb⟩
    obtain ⟨a, c, rfl⟩ := ht.form
    obtain ⟨r1, q1, q2⟩ := ht.rd
    obtain ⟨g, rfl, _, hgl, hcell⟩ := ht.at_ hpos
    have B1 := Lib.hid hb
    have HC := Lib.hid hcell
    have HR := Lib.hid ht
    clear ht hb hcell r1
    go_wp2_with fail
    go_loopw [4] (fun kv wr => ∃ k : Nat, k ≤ L.length ∧ kv = .int .i64 k ∧ Below w1.heap.size w1 wr) (fun kv _ => L.length - (intOf kv).toNat)
    case atStart => exact ⟨0, Nat.zero_le _, rfl, Below.refl _ _⟩
    case round =>
      obtain ⟨k, hk, rfl, hb⟩ := hrel
      have HBr := Lib.hid hb
      have HBw := Lib.hid (B1.out.trans (hb.mono B1.out.size))
      by_cases hlt : k < L.length
      · have c0 := (hb.cell (p := ⟨g, k, none⟩) hgl).trans (HC.out k hlt)
        obtain ⟨hxl, hxs, hxn⟩ := HX.out k hlt
        obtain ⟨y, hy⟩ : ∃ y, L.getD k [] = y := ⟨_, rfl⟩
        rw [hy] at c0 hxl hxs hxn
        clear hy hb
        have CL := Lib.hid (fun w => levels_any (w := w) (bs y) (by rw [bs_size]; omega))
        rw [ls_bs, spl_no hxs] at CL
        unfold LevSays at CL
        have CN := Lib.hid (fun w' (hb : Below w.heap.size w w') => isName_any (bs y) (by rw [bs_size]; omega) (E.out w' hb))
        have hysz : (bs y).size ≤ 300 := by rw [bs_size]; omega
        cases nb with
        | false =>
          clear hxs hxn
          generalize bs y = ys at *
          go_wp2_with fail
          refine (CL.out _).mono ?_
          rintro x w2 ⟨v2, rfl, ht2, hb⟩
          obtain ⟨a2, c2, rfl⟩ := ht2.form
          have B2 := Lib.hid (HBw.out.trans (hb.mono HBw.out.size))
          have B2' := Lib.hid (HBr.out.trans (hb.mono HBr.out.size))
          clear ht2 hb c0
          go_wp2_with fail
          refine (C1.out _ B2.out).mono ?_
          rintro x w3 ⟨rfl, hb⟩
          have B3 := Lib.hid (B2'.out.trans (hb.mono B2'.out.size))
          clear hb
          go_wp2_with fail
          go_roundw
          case rel => exact ⟨k + 1, by omega, by go_num, B3.out⟩
          case measure => simp [intOf]; omega
        | true =>
          by_cases hye : y = []
          · subst hye
            have hnil : bs [] = ⟨#[]⟩ := rfl
            rw [hnil] at c0 CL CN
            clear hxs hxn hnil
            go_wp2_with fail
            refine (CL.out _).mono ?_
            rintro x w2 ⟨v2, rfl, ht2, hb⟩
            obtain ⟨a2, c2, rfl⟩ := ht2.form
            have B2 := Lib.hid (HBw.out.trans (hb.mono HBw.out.size))
            have B2' := Lib.hid (HBr.out.trans (hb.mono HBr.out.size))
            have c1 := (hb.cell (p := ⟨g, k, none⟩) (Nat.lt_of_lt_of_le hgl HBr.out.size)).trans c0
            clear ht2 hb c0
            go_wp2_with fail
            refine (C1.out _ B2.out).mono ?_
            rintro x w3 ⟨rfl, hb⟩
            have B3 := Lib.hid (B2'.out.trans (hb.mono B2'.out.size))
            have c3 := (hb.cell (p := ⟨g, k, none⟩) (Nat.lt_of_lt_of_le hgl B2'.out.size)).trans c1
            clear hb c1
            go_wp2_with fail
            go_roundw
            case rel => exact ⟨k + 1, by omega, by go_num, B3.out⟩
            case measure => simp [intOf]; omega
          · have hn := hxn rfl hye
            rw [hn] at CN
            have e0 : bs y ≠ ⟨#[]⟩ := fun h => hye (by rw [← ls_bs y, h]; rfl)
            have e1 := str_full e0
            have e2 := str_full2 e1
            clear hxs hxn hye hn e0
            generalize bs y = ys at *
            go_wp2_with fail
            refine (CL.out _).mono ?_
            rintro x w2 ⟨v2, rfl, ht2, hb⟩
            obtain ⟨a2, c2, rfl⟩ := ht2.form
            have B2 := Lib.hid (HBw.out.trans (hb.mono HBw.out.size))
            have B2' := Lib.hid (HBr.out.trans (hb.mono HBr.out.size))
            have c1 := (hb.cell (p := ⟨g, k, none⟩) (Nat.lt_of_lt_of_le hgl HBr.out.size)).trans c0
            clear ht2 hb c0
            go_wp2_with fail
            refine (C1.out _ B2.out).mono ?_
            rintro x w3 ⟨rfl, hb⟩
            have B3 := Lib.hid (B2'.out.trans (hb.mono B2'.out.size))
            have B3w := Lib.hid (B2.out.trans (hb.mono B2.out.size))
            have c3 := (hb.cell (p := ⟨g, k, none⟩) (Nat.lt_of_lt_of_le hgl B2'.out.size)).trans c1
            clear hb c1
            go_wp2_with fail
            refine (CN.out _ B3w.out).mono ?_
            rintro x w4 ⟨rfl, hb⟩
            have B4 := Lib.hid (B3.out.trans (hb.mono B3.out.size))
            clear hb c3
            go_wp2_with fail
            go_roundw
            case rel => exact ⟨k + 1, by omega, by go_num, B4.out⟩
            case measure => simp [intOf]; omega
      · obtain rfl : k = L.length := by omega
        have HJN := Lib.hid (join_any (w := wr) (c := c) (HR.out.below hb).rd.1 (by rw [HJ.out, ls_size]; omega) (by omega))
        rw [HJ.out, bs_ls] at HJN
        have hp0 : (0 : Int) < (L.length : Int) := by omega
        clear hb
        go_wp2_with fail
        refine (HJN.out).mono ?_
        rintro x w2 ⟨rfl, rfl⟩
        go_wp2_with fail
        refine (C8.out _ HBw.out).mono ?_
        rintro x w3 ⟨rfl, hb⟩
        have B9 := Lib.hid (HBw.out.trans (hb.mono HBw.out.size))
        clear hb
        go_wp2_with fail
        go_ret
        exact ⟨rfl, B9.out⟩
end
end Go.Proofs.YtdaicjplmnpooaaDoor
