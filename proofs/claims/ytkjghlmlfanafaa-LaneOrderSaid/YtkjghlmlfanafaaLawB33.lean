/- What is proved here: LaneOrder answers true for every items, number and client. Condition: the argument is what a row says of it. -/
import Derived.Test.YtkjghlmlfanafaaOrd33
import Derived.Deep.QuietTactic
import Derived.BigQuiet
namespace Go.Proofs.Ytkjghlmlfanafaa
open Go.RowKit Go.Extern.Stop Go.Stop Go.Extern Go.Maps
section
variable {w : World} {A : Option Addr} {L : IL}
set_option maxHeartbeats 4000000 in
set_option maxRecDepth 100000 in
theorem laneOrder_walk (A : Option Addr) (n c : Nat) (L : IL) (at_ : Int) (client : ByteArray) (w : World) (hnz : n ≤ maxLen) (ha : ItemsN w A n L) (hq : (Lit.int .u8 at_).wf = true) (_ : client.size ≤ maxLen) : Calls Try.prog 11 #[.slice A n c, .int .u8 at_, .string client] w fun x w' => x = .returned (.bool true) ∧ Below w.heap.size w w' := by
  unfold maxLen at hnz
  obtain ⟨hn, ha⟩ := ha
  obtain ⟨q, rfl, hq5⟩ : ∃ q : Nat, at_ = (q : Int) ∧ q ≤ 255 := by
    simp [Lit.wf, IntKind.min, IntKind.max, IntKind.signed, IntKind.bits] at hq
    exact ⟨at_.toNat, by omega, by omega⟩
  have W1 := Lib.hid (few33_any n c ha hn hnz)
  have HA := Lib.hid ha
  have HN := Lib.hid hn
  have hend := fun (W : World) (hl : Ltr w W) => (awake33 W).mono fun x w' hx => show x = .returned (.bool true) ∧ Ltr w w' from ⟨hx.1, hl.next hx.2⟩
  have HEND := Lib.hid hend
  clear ha hn hend hq
  go_enter Try.func11, Try.ntmps11
  go_wp2_with fail
  refine W1.out.mono ?_
  rintro x w1 ⟨b, rfl, hb2, hb1⟩
  have HB1 := Lib.hid (show Ltr w w1 from hb1)
  clear W1 hb1
  cases b with
  | false =>
    clear hb2
    go_wp2_with fail
    refine (HEND.out _ HB1.out).mono ?_
    rintro x w9 ⟨rfl, hl9⟩
    have HL9 := Lib.hid hl9
    clear hl9
    go_wp2_with fail
    go_ret
    exact ⟨rfl, HL9.out⟩
  | true =>
    obtain ⟨hn20, hz⟩ := hb2 rfl
    have hn20' : n ≤ 20 := by have := HN.out; omega
    have HZ := Lib.hid (fun m hm => Nat.le_trans (hz m hm) (by omega : 200 ≤ 1000))
    have CS := Lib.hid ((rsound_lane (c := c) (HA.out.below HB1.out).1 n HN.out (by omega)).mono fun x w' hx => show x = .returned (.bool (sndB L)) ∧ Ltr w w' from ⟨hx.1, by
      obtain ⟨d, e⟩ := hx.2
      rw [e]; exact below_drewN HB1.out d⟩)
    clear hb2 hn20 hz
    go_wp2_with fail
    refine CS.out.mono ?_
    rintro x w2 ⟨rfl, hb⟩
    have HB2 := Lib.hid hb
    clear hb CS
    cases hs : sndB L with
    | false =>
      clear hs
      go_wp2_with fail
      refine (HEND.out _ HB2.out).mono ?_
      rintro x w9 ⟨rfl, hl9⟩
      have HL9 := Lib.hid hl9
      clear hl9
      go_wp2_with fail
      go_ret
      exact ⟨rfl, HL9.out⟩
    | true =>
      have HS := Lib.hid hs
      clear hs
      cases hce : client.toList.isEmpty with
      | true =>
        go_wp2_with fail
        refine (HEND.out _ HB2.out).mono ?_
        rintro x w9 ⟨rfl, hl9⟩
        have HL9 := Lib.hid hl9
        clear hl9
        go_wp2_with fail
        go_ret
        exact ⟨rfl, HL9.out⟩
      | false =>
        have HCE := Lib.hid (show client ≠ e0 from fun e => by
          subst e
          rw [ByteArray.toList_eq] at hce
          cases hce)
        by_cases hcl : 100 < client.size
        · go_wp2_with fail
          refine (HEND.out _ HB2.out).mono ?_
          rintro x w9 ⟨rfl, hl9⟩
          have HL9 := Lib.hid hl9
          clear hl9
          go_wp2_with fail
          go_ret
          exact ⟨rfl, HL9.out⟩
        · have hcl' : client.size ≤ 100 := by omega
          clear hcl
          by_cases hn0 : n = 0
          · subst hn0
            go_wp2_with fail
            refine (HEND.out _ HB2.out).mono ?_
            rintro x w9 ⟨rfl, hl9⟩
            have HL9 := Lib.hid hl9
            clear hl9
            go_wp2_with fail
            go_ret
            exact ⟨rfl, HL9.out⟩
          · have hn1 : 0 < n := by omega
            have hnb : (((n : Nat) : Int) == 0) = false := beq_eq_false_iff_ne.2 (by omega)
            obtain ⟨g1, off, rfl, hcc⟩ := HA.out.1 (by have := HN.out; omega)
            have HCC := Lib.hid (fun W (hl : Ltr w W) i (hi : i < L.length) => show ICells W g1 (off + i * 12) (L.getD i i0) from (hcc i hi).at (Below.block hl g1 (lt_of_cell (hcc i hi).c0)))
            clear hcc
            go_upto_region 4 with fail
            obtain ⟨k, hk, hkn⟩ : ∃ k : Nat, (q : Int) % (n : Int) = (k : Int) ∧ k < n := ⟨q % n, by simp, Nat.mod_lt _ hn1⟩
            rw [hk]
            clear hk hce hcl'
            have CM := Lib.hid (may_lane (c := c) (HA.out.below HB2.out).1 n HN.out (by omega) (k : Int) client)
            go_wp2_with fail
            refine CM.out.mono ?_
            rintro x w3 ⟨rfl, hb3⟩
            have HB3 := Lib.hid (show Ltr w w3 from HB2.out.next hb3)
            clear hb3 CM
            cases hmay : mayB L (k : Int) client with
            | false =>
              clear hmay
              have CH := Lib.hid (head_lane (c := c) (HA.out.below HB3.out).1 n HN.out (by omega) HZ.out)
              go_wp2_with fail
              refine CH.out.mono ?_
              rintro x w7 ⟨v7, rfl, hk7, hb7⟩
              obtain ⟨a7, c7, rfl⟩ := hk7.form
              have HB7 := Lib.hid (show Ltr w w7 from HB3.out.next hb7)
              have HK7 := Lib.hid (fun W (hl : Ltr w7 W) => hk7.rd.below hl)
              have htl := headN_len L L.length
              have HM := Lib.hid (fun x (hx : x ∈ headN L L.length) => (head_mem hx rfl).1)
              have HF := Lib.hid (fun x (hx : x ∈ headN L L.length) => head_free (client := client) hx rfl)
              have HWI := Lib.hid (fun x (hx : x ∈ headN L L.length) => head_with hx rfl HS.out)
              clear hk7 hb7 CH
              generalize headN L L.length = T at *
              have htl2 : T.length ≤ 20 := by have := HN.out; omega
              clear htl
              go_wp2_with fail
              go_loopw [11] (fun i wr => ∃ p : Nat, p ≤ T.length ∧ i = .int .i64 p ∧ Ltr w7 wr) (fun i _ => T.length - (intOf i).toNat)
              case atStart => exact ⟨0, by omega, rfl, Below.refl _ _⟩
              case round =>
                obtain ⟨p, hp, rfl, hlt7⟩ := hrel
                have HLT := Lib.hid hlt7
                have HBW := Lib.hid (show Ltr w wr from Below.trans HB7.out (Below.mono hlt7 HB7.out.size))
                clear hlt7
                by_cases hpl : p < T.length
                · obtain ⟨gh, oh, rfl, hch⟩ := HK7.out _ (Below.refl _ _) (by omega)
                  have HQ := Lib.hid (fun W (hl : Ltr w7 W) => show W.cell? ⟨gh, oh + p, none⟩ = some (.int .i64 (T.getD p 0 : Nat)) from (World.cell?_of_block (w := w7) (Below.block hl gh (lt_of_cell (hch p hpl)))).trans (hch p hpl))
                  have hxT : T.getD p 0 ∈ T := by
                    rw [List.getD_eq_getElem?_getD, List.getElem?_eq_getElem hpl]
                    exact List.getElem_mem _
                  have hxL := HM.out _ hxT
                  have HF2 := Lib.hid (HF.out _ hxT)
                  have HW2 := Lib.hid (HWI.out _ hxT)
                  have cq := HQ.out wr HLT.out
                  clear hch hxT
                  generalize T.getD p 0 = x at *
                  have hxn : x < n := by have := HN.out; omega
                  have c0 := (HCC.out wr HBW.out x hxL).c0
                  have hsz : (L.getD x i0).topic.size ≤ 1000 := by
                    refine HZ.out _ ?_
                    rw [List.getD_eq_getElem?_getD, List.getElem?_eq_getElem hxL]
                    exact List.getElem_mem _
                  obtain ⟨key, hkey⟩ : ∃ key, key = (L.getD x i0).topic := ⟨_, rfl⟩
                  rw [← hkey] at c0 hsz HF2 HW2
                  have CO := Lib.hid (owner_lane (c := c) (HA.out.below HBW.out).1 n HN.out (by omega) HZ.out key hsz)
                  clear hkey hsz hxL
                  generalize ownS L key = ow at *
                  obtain ⟨os, ob⟩ := ow
                  dsimp only at CO HF2 HW2
                  go_wp2_with fail
                  refine CO.out.mono ?_
                  rintro y w8 ⟨rfl, hb8⟩
                  have HB8 := Lib.hid (show Ltr w w8 from HBW.out.next hb8)
                  have HB78 := Lib.hid (show Ltr w7 w8 from HLT.out.next hb8)
                  have cq8 := HQ.out w8 HB78.out
                  clear hb8 CO c0 cq
                  cases ob with
                  | false =>
                    have CM2 := Lib.hid (may_lane (c := c) (HA.out.below HB8.out).1 n HN.out (by omega) (x : Int) client)
                    rw [HF2.out rfl] at CM2
                    clear HF2 HW2
                    go_wp2_with fail
                    refine CM2.out.mono ?_
                    rintro y w9 ⟨rfl, hb9⟩
                    have HB9 := Lib.hid (show Ltr w7 w9 from HB78.out.next hb9)
                    clear hb9 CM2 cq8
                    go_wp2_with fail
                    go_roundw
                    case rel => exact ⟨p + 1, by omega, by go_num, HB9.out⟩
                    case measure => simp [intOf]; omega
                  | true =>
                    have CM2 := Lib.hid (may_lane (c := c) (HA.out.below HB8.out).1 n HN.out (by omega) (x : Int) os)
                    rw [HW2.out rfl] at CM2
                    clear HF2 HW2
                    go_wp2_with fail
                    refine CM2.out.mono ?_
                    rintro y w9 ⟨rfl, hb9⟩
                    have HB9 := Lib.hid (show Ltr w7 w9 from HB78.out.next hb9)
                    clear hb9 CM2 cq8
                    go_wp2_with fail
                    go_roundw
                    case rel => exact ⟨p + 1, by omega, by go_num, HB9.out⟩
                    case measure => simp [intOf]; omega
                · clear HK7 HM HF HWI
                  go_wp2_with fail
                  refine (HEND.out _ HBW.out).mono ?_
                  rintro x w9 ⟨rfl, hl9⟩
                  have HL9 := Lib.hid hl9
                  clear hl9
                  go_wp2_with fail
                  go_ret
                  exact ⟨rfl, HL9.out⟩
            | true =>
              have hkL : k < L.length := by have := HN.out; omega
              have HKL := Lib.hid hkL
              have HALL := Lib.hid (((may_iff hkL).1 hmay).2)
              have HWS := Lib.hid (with_snd HS.out hkL hmay)
              have HWM := Lib.hid (with_may (c2 := client) hkL HCE.out)
              have CW := Lib.hid (with_any (c := c) (HA.out.below HB3.out).1 n HN.out (by omega) (k : Int) client)
              have HWZ := Lib.hid (show ∀ m ∈ withL L (k : Int) client L.length, m.topic.size ≤ 1000 from fun m hm => by
                unfold withL at hm
                obtain ⟨i, hi, rfl⟩ := List.mem_map.1 hm
                have hiL := List.mem_range.1 hi
                have := HZ.out (L.getD i i0) (by rw [List.getD_eq_getElem?_getD, List.getElem?_eq_getElem hiL]; exact List.getElem_mem _)
                split
                · exact this
                · exact this)
              clear hkL hmay
              go_wp2_with fail
              refine CW.out.mono ?_
              rintro x w4 ⟨a4, c4, rfl, hr4, hb4⟩
              have HB4 := Lib.hid (show Ltr w w4 from HB3.out.next hb4)
              obtain ⟨M, hM⟩ : ∃ M, M = withL L (k : Int) client L.length := ⟨_, rfl⟩
              have hML : L.length = M.length := by rw [hM, withL_len]
              rw [← hM] at hr4 HWS HWM HWZ
              have HR4 := Lib.hid (fun W (hb : Below w4.heap.size w4 W) => hr4.below hb)
              have CSN := Lib.hid (sound_lane (c := c4) hr4 L.length hML (by have := HN.out; omega) HWZ.out)
              have HML := Lib.hid hML
              rw [HWS.out] at CSN
              clear hr4 hb4 CW hM hML
              have hnn : L.length = n := HN.out.symm
              have HNN := Lib.hid hnn
              rw [hnn] at CSN
              clear hnn
              rw [HNN.out]
              go_wp2_with fail
              refine CSN.out.mono ?_
              rintro x w5 ⟨rfl, hb5⟩
              have HB5 := Lib.hid (show Ltr w w5 from HB4.out.next hb5)
              have CMN := Lib.hid (may_lane (c := c4) (HR4.out w5 hb5) n (HN.out.trans HML.out) (by omega) (k : Int) client)
              rw [HWM.out] at CMN
              clear hb5 CSN
              go_wp2_with fail
              refine CMN.out.mono ?_
              rintro x w6 ⟨rfl, hb6⟩
              have HB6 := Lib.hid (show Ltr w w6 from HB5.out.next hb6)
              clear hb6 CMN
              go_wp2_with fail
              go_loopw [9] (fun i wr => ∃ j d : Nat, j ≤ n ∧ i = .int .i64 j ∧ wr = w6.drewN d) (fun i _ => n - (intOf i).toNat)
              case atStart => exact ⟨0, 0, by omega, rfl, rfl⟩
              case round =>
                obtain ⟨i, d, hi, rfl, hwr⟩ := hrel
                have HWD := Lib.hid hwr
                by_cases hin : i < n
                · have hiL : i < L.length := by have := HN.out; omega
                  have hlw : Ltr w wr := by rw [hwr]; exact below_drewN HB6.out d
                  have hci := HCC.out wr hlw i hiL
                  have hck := HCC.out wr hlw k HKL.out
                  have hbd := bad_iff.1 (HALL.out i hiL)
                  obtain ⟨mi, hmi⟩ : ∃ m, m = L.getD i i0 := ⟨_, rfl⟩
                  obtain ⟨mk, hmk⟩ : ∃ m, m = L.getD k i0 := ⟨_, rfl⟩
                  rw [← hmi] at hci hbd
                  rw [← hmk] at hck hbd
                  have e0' := hci.c0
                  have e9 := hci.c9
                  have f0 := hck.c0
                  have he := eq_text mi.topic mk.topic
                  have he2 := eq_text mi.who client
                  unfold IV.w at hbd
                  have HBD := Lib.hid hbd
                  clear hmi hmk hci hck hbd hlw hiL hwr
                  by_cases ht : mi.topic = mk.topic
                  · rw [decide_eq_true ht] at he
                    have hb2 := HBD.out ht
                    cases hwi : mi.who.toList.isEmpty with
                    | true =>
                      have hki : k ≤ i := by have := hb2.1 hwi; omega
                      have hik : ¬ i < k := by omega
                      clear hb2 ht
                      go_wp2_with fail
                      go_quiet (fail)
                      go_wp2_with fail
                      go_roundw
                      case rel => exact ⟨i + 1, _, by omega, by go_num, drew_on HWD.out _⟩
                      case measure => simp [intOf]; omega
                    | false =>
                      have hwho := hb2.2 hwi
                      rw [decide_eq_true hwho] at he2
                      clear hb2 ht hwho
                      by_cases hik : i < k
                      · have hik2 : decide ((i : Int) < (k : Int)) = true := decide_eq_true (by omega)
                        go_wp2_with fail
                        go_quiet (fail)
                        go_wp2_with fail
                        go_roundw
                        case rel => exact ⟨i + 1, _, by omega, by go_num, drew_on HWD.out _⟩
                        case measure => simp [intOf]; omega
                      · have hki : k ≤ i := by omega
                        go_wp2_with fail
                        go_quiet (fail)
                        go_wp2_with fail
                        go_roundw
                        case rel => exact ⟨i + 1, _, by omega, by go_num, drew_on HWD.out _⟩
                        case measure => simp [intOf]; omega
                  · rw [decide_eq_false ht] at he
                    clear ht
                    go_wp2_with fail
                    go_quiet (fail)
                    go_wp2_with fail
                    go_roundw
                    case rel => exact ⟨i + 1, _, by omega, by go_num, drew_on HWD.out _⟩
                    case measure => simp [intOf]; omega
                · have HBD6 := Lib.hid (show Ltr w wr by rw [hwr]; exact below_drewN HB6.out d)
                  clear hwr
                  have CH := Lib.hid (head_lane (c := c) (HA.out.below HBD6.out).1 n HN.out (by omega) HZ.out)
                  go_wp2_with fail
                  refine CH.out.mono ?_
                  rintro x w7 ⟨v7, rfl, hk7, hb7⟩
                  obtain ⟨a7, c7, rfl⟩ := hk7.form
                  have HB7 := Lib.hid (show Ltr w w7 from HBD6.out.next hb7)
                  have HK7 := Lib.hid (fun W (hl : Ltr w7 W) => hk7.rd.below hl)
                  have htl := headN_len L L.length
                  have HM := Lib.hid (fun x (hx : x ∈ headN L L.length) => (head_mem hx rfl).1)
                  have HF := Lib.hid (fun x (hx : x ∈ headN L L.length) => head_free (client := client) hx rfl)
                  have HWI := Lib.hid (fun x (hx : x ∈ headN L L.length) => head_with hx rfl HS.out)
                  clear hk7 hb7 CH
                  generalize headN L L.length = T at *
                  have htl2 : T.length ≤ 20 := by have := HN.out; omega
                  clear htl
                  go_wp2_with fail
                  go_loopw [11] (fun i wr => ∃ p : Nat, p ≤ T.length ∧ i = .int .i64 p ∧ Ltr w7 wr) (fun i _ => T.length - (intOf i).toNat)
                  case atStart => exact ⟨0, by omega, rfl, Below.refl _ _⟩
                  case round =>
                    obtain ⟨p, hp, rfl, hlt7⟩ := hrel
                    have HLT := Lib.hid hlt7
                    have HBW := Lib.hid (show Ltr w wr from Below.trans HB7.out (Below.mono hlt7 HB7.out.size))
                    clear hlt7
                    by_cases hpl : p < T.length
                    · obtain ⟨gh, oh, rfl, hch⟩ := HK7.out _ (Below.refl _ _) (by omega)
                      have HQ := Lib.hid (fun W (hl : Ltr w7 W) => show W.cell? ⟨gh, oh + p, none⟩ = some (.int .i64 (T.getD p 0 : Nat)) from (World.cell?_of_block (w := w7) (Below.block hl gh (lt_of_cell (hch p hpl)))).trans (hch p hpl))
                      have hxT : T.getD p 0 ∈ T := by
                        rw [List.getD_eq_getElem?_getD, List.getElem?_eq_getElem hpl]
                        exact List.getElem_mem _
                      have hxL := HM.out _ hxT
                      have HF2 := Lib.hid (HF.out _ hxT)
                      have HW2 := Lib.hid (HWI.out _ hxT)
                      have cq := HQ.out wr HLT.out
                      clear hch hxT
                      generalize T.getD p 0 = x at *
                      have hxn : x < n := by have := HN.out; omega
                      have c0 := (HCC.out wr HBW.out x hxL).c0
                      have hsz : (L.getD x i0).topic.size ≤ 1000 := by
                        refine HZ.out _ ?_
                        rw [List.getD_eq_getElem?_getD, List.getElem?_eq_getElem hxL]
                        exact List.getElem_mem _
                      obtain ⟨key, hkey⟩ : ∃ key, key = (L.getD x i0).topic := ⟨_, rfl⟩
                      rw [← hkey] at c0 hsz HF2 HW2
                      have CO := Lib.hid (owner_lane (c := c) (HA.out.below HBW.out).1 n HN.out (by omega) HZ.out key hsz)
                      clear hkey hsz hxL
                      generalize ownS L key = ow at *
                      obtain ⟨os, ob⟩ := ow
                      dsimp only at CO HF2 HW2
                      go_wp2_with fail
                      refine CO.out.mono ?_
                      rintro y w8 ⟨rfl, hb8⟩
                      have HB8 := Lib.hid (show Ltr w w8 from HBW.out.next hb8)
                      have HB78 := Lib.hid (show Ltr w7 w8 from HLT.out.next hb8)
                      have cq8 := HQ.out w8 HB78.out
                      clear hb8 CO c0 cq
                      cases ob with
                      | false =>
                        have CM2 := Lib.hid (may_lane (c := c) (HA.out.below HB8.out).1 n HN.out (by omega) (x : Int) client)
                        rw [HF2.out rfl] at CM2
                        clear HF2 HW2
                        go_wp2_with fail
                        refine CM2.out.mono ?_
                        rintro y w9 ⟨rfl, hb9⟩
                        have HB9 := Lib.hid (show Ltr w7 w9 from HB78.out.next hb9)
                        clear hb9 CM2 cq8
                        go_wp2_with fail
                        go_roundw
                        case rel => exact ⟨p + 1, by omega, by go_num, HB9.out⟩
                        case measure => simp [intOf]; omega
                      | true =>
                        have CM2 := Lib.hid (may_lane (c := c) (HA.out.below HB8.out).1 n HN.out (by omega) (x : Int) os)
                        rw [HW2.out rfl] at CM2
                        clear HF2 HW2
                        go_wp2_with fail
                        refine CM2.out.mono ?_
                        rintro y w9 ⟨rfl, hb9⟩
                        have HB9 := Lib.hid (show Ltr w7 w9 from HB78.out.next hb9)
                        clear hb9 CM2 cq8
                        go_wp2_with fail
                        go_roundw
                        case rel => exact ⟨p + 1, by omega, by go_num, HB9.out⟩
                        case measure => simp [intOf]; omega
                    · clear HK7 HM HF HWI
                      go_wp2_with fail
                      refine (HEND.out _ HBW.out).mono ?_
                      rintro x w9 ⟨rfl, hl9⟩
                      have HL9 := Lib.hid hl9
                      clear hl9
                      go_wp2_with fail
                      go_ret
                      exact ⟨rfl, HL9.out⟩
end
end Go.Proofs.Ytkjghlmlfanafaa
