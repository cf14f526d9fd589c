/- What is proved here: whether an item may go to a client, and which items are at the head. Conditions: the items stand where the slice says; few of them, of short keys. -/
import Derived.Test.YtkjghlmlfanafaaOwn33
namespace Go.Proofs.Ytkjghlmlfanafaa
open Go.RowKit Go.Extern.Stop Go.Stop Go.Extern Go.Maps
/-- Does an item stand in the way of one at a place? -/
def badI (L : IL) (key : ByteArray) (at_ : Int) (client : ByteArray) (i : Nat) : Bool :=
  decide ((L.getD i i0).topic = key) && (((L.getD i i0).w && decide ((i : Int) < at_)) || (!(L.getD i i0).w && !decide ((L.getD i i0).who = client)))
def mayB (L : IL) (at_ : Int) (client : ByteArray) : Bool :=
  decide (0 ≤ at_) && decide (at_ < L.length) && (L.getD at_.toNat i0).w && (List.range L.length).all fun i => !badI L (L.getD at_.toNat i0).topic at_ client i
section
variable {w : World} {A : Option Addr} {L : IL}
theorem mayB_out {at_ : Int} {client : ByteArray} (h : at_ < 0 ∨ L.length ≤ at_) : mayB L at_ client = false := by
  unfold mayB
  rcases h with h | h
  · rw [decide_eq_false (by omega : ¬ 0 ≤ at_)]; rfl
  · rw [decide_eq_false (by omega : ¬ at_ < (L.length : Int)), Bool.and_false]; rfl
theorem mayB_in {a : Nat} {client : ByteArray} (h : a < L.length) : mayB L (a : Int) client = ((L.getD a i0).w && (List.range L.length).all fun i => !badI L (L.getD a i0).topic a client i) := by
  unfold mayB
  rw [decide_eq_true (by omega : (0 : Int) ≤ (a : Int)), decide_eq_true (by omega : (a : Int) < (L.length : Int)), Int.toNat_natCast]
  rfl
theorem mayB_bad {a k : Nat} {client : ByteArray} (h : a < L.length) (hk : k < L.length) (hb : badI L (L.getD a i0).topic a client k = true) : mayB L (a : Int) client = false := by
  rw [mayB_in h]
  cases hs : (L.getD a i0).w && (List.range L.length).all fun i => !badI L (L.getD a i0).topic a client i with
  | false => rfl
  | true =>
    rw [Bool.and_eq_true, List.all_eq_true] at hs
    have := hs.2 k (List.mem_range.2 hk)
    rw [hb] at this
    cases this
theorem mayB_good {a : Nat} {client : ByteArray} (h : a < L.length) (hw : (L.getD a i0).w = true) (hb : ∀ k, k < L.length → badI L (L.getD a i0).topic a client k = false) : mayB L (a : Int) client = true := by
  rw [mayB_in h, hw, Bool.true_and, List.all_eq_true]
  intro i hi
  rw [hb i (List.mem_range.1 hi)]
  rfl
set_option maxHeartbeats 1000000 in
theorem may_lane (h : ItRd w A L) (n c : Nat) (hn : n = L.length) (hm : n ≤ 100) (at_ : Int) (client : ByteArray) : Calls Try.prog 49 #[.slice A n c, .int .i64 at_, .string client] w fun x w' => x = .returned (.bool (mayB L at_ client)) ∧ Below w.heap.size w w' := by
  by_cases h0 : at_ < 0
  · have HO := Lib.hid (mayB_out (L := L) (client := client) (.inl h0))
    clear h hn
    go_enter Try.func49, Try.ntmps49
    go_wp2_with fail
    go_ret
    exact ⟨by rw [HO.out]; rfl, Below.refl _ _⟩
  obtain ⟨a, rfl⟩ : ∃ a : Nat, at_ = (a : Int) := ⟨at_.toNat, by omega⟩
  by_cases h1 : n ≤ a
  · have HO := Lib.hid (mayB_out (L := L) (at_ := (a : Int)) (client := client) (.inr (by omega)))
    clear h hn
    go_enter Try.func49, Try.ntmps49
    go_wp2_with fail
    go_ret
    exact ⟨by rw [HO.out]; rfl, Below.refl _ _⟩
  have haL : a < L.length := by omega
  obtain ⟨g1, off, rfl, hcc⟩ := h (by omega)
  have hc := hcc a haL
  have HBAD := Lib.hid (fun k hk hb => mayB_bad (L := L) (a := a) (k := k) (client := client) haL hk hb)
  have HGOOD := Lib.hid (mayB_good (L := L) (a := a) (client := client) haL)
  have HIN := Lib.hid (mayB_in (L := L) (a := a) (client := client) haL)
  have HN := Lib.hid hn
  have HCC := Lib.hid hcc
  obtain ⟨p, hp⟩ : ∃ p, p = L.getD a i0 := ⟨_, rfl⟩
  rw [← hp] at hc HBAD HGOOD HIN
  obtain ⟨c0, c1, c2, c3, c4, c5, c6, c7, c8, c9, c10, c11⟩ := hc
  have HW := Lib.hid (waits_any p)
  have HK := Lib.hid (key_any p)
  have HR := Lib.hid (fun W (hb : Below w.heap.size w W) => fun k (hk : k < L.length) => (hcc k hk).at (hb.block g1 (lt_of_cell (hcc k hk).c0)))
  unfold IV.agg at HW
  unfold IV.msg at HK
  have HCP := Lib.hid (fun W (hb : Below w.heap.size w W) => show ICells W g1 (off + a * 12) p from by rw [hp]; exact (hcc a haL).at (hb.block g1 (lt_of_cell (hcc a haL).c0)))
  have HHA := Lib.hid haL
  clear h hn hp haL hcc
  go_enter Try.func49, Try.ntmps49
  go_wp2_with fail
  refine (HW.out _).mono ?_
  rintro x w1 ⟨rfl, hb1⟩
  clear HW c0 c1 c2 c3 c4 c5 c6 c7 c8 c9 c10 c11
  cases hpw : p.w with
  | false =>
    have HO := Lib.hid (show mayB L (a : Int) client = false from HIN.out.trans (by rw [hpw]; rfl))
    have HB := Lib.hid hb1
    clear hb1
    go_wp2_with fail
    go_ret
    exact ⟨by rw [HO.out]; rfl, HB.out⟩
  | true =>
  have hcP := HCP.out w1 hb1
  obtain ⟨c0, c1, c2, c3, c4, c5, c6, c7, c8, c9, c10, c11⟩ := hcP
  have HG2 := Lib.hid (HGOOD.out hpw)
  have HB1 := Lib.hid hb1
  clear hb1 hpw HGOOD HIN
  go_wp2_with fail
  refine (HK.out _).mono ?_
  rintro x w2 ⟨rfl, hb2⟩
  have HB := Lib.hid (HB1.out.trans (hb2.mono HB1.out.size))
  have HR2 := Lib.hid (HR.out w2 (HB1.out.trans (hb2.mono HB1.out.size)))
  clear hb2 HB1 HK HR c0 c1 c2 c3 c4 c5 c6 c7 c8 c9 c10 c11
  obtain ⟨key, hkey⟩ : ∃ key, key = p.topic := ⟨_, rfl⟩
  rw [← hkey] at HBAD HG2 ⊢
  clear hkey
  go_wp2_with fail
  go_loopw [34] (fun i wr => ∃ k : Nat, k ≤ n ∧ i = .int .i64 k ∧ Ltr w2 wr ∧ Hid (∀ j, j < k → badI L key a client j = false)) (fun i _ => n - (intOf i).toNat)
  case atStart => exact ⟨0, by omega, rfl, Below.refl _ _, Lib.hid fun j hj => absurd hj (by omega)⟩
  case round =>
    obtain ⟨k, hk, rfl, hlt0, HG⟩ := hrel
    by_cases hlt : k < n
    · have hkL : k < L.length := by have := HN.out; omega
      have hc := (HR2.out k hkL).at (hlt0.block g1 (lt_of_cell (HR2.out k hkL).c0))
      have hbd : badI L key a client k = badI L key a client k := rfl
      conv at hbd => rhs; unfold badI
      obtain ⟨m, hm'⟩ : ∃ m, m = L.getD k i0 := ⟨_, rfl⟩
      rw [← hm'] at hc hbd
      have HBD := Lib.hid hbd
      have HKL := Lib.hid hkL
      clear hm' hbd hkL
      obtain ⟨c0, c1, c2, c3, c4, c5, c6, c7, c8, c9, c10, c11⟩ := hc
      have HX0 := Lib.hid (Blk.made wr 69 #[.string m.topic, .string m.payload, .int .i64 m.qos, .bool m.retain, .slice m.pa m.pn m.pc, .string m.frm, .int .i64 m.til, .int .i64 m.seq, .string m.grp, .string m.who, .slice m.ba m.bn m.bc, .bool m.again])
      have HL := Lib.hid (show Ltr w2 (wr.alloc (.cells #[.string m.topic, .string m.payload, .int .i64 m.qos, .bool m.retain, .slice m.pa m.pn m.pc, .string m.frm, .int .i64 m.til, .int .i64 m.seq, .string m.grp, .string m.who, .slice m.ba m.bn m.bc, .bool m.again] 69)) from Below.alloc hlt0 hlt0.size _)
      have D63 := Lib.hid (fun W (h : Ltr (wr.alloc (.cells #[.string m.topic, .string m.payload, .int .i64 m.qos, .bool m.retain, .slice m.pa m.pn m.pc, .string m.frm, .int .i64 m.til, .int .i64 m.seq, .string m.grp, .string m.who, .slice m.ba m.bn m.bc, .bool m.again] 69)) W) => (sent_any m W).mono fun x w' hx => show x = .returned (.bool (!m.w)) ∧ Ltr (wr.alloc (.cells #[.string m.topic, .string m.payload, .int .i64 m.qos, .bool m.retain, .slice m.pa m.pn m.pc, .string m.frm, .int .i64 m.til, .int .i64 m.seq, .string m.grp, .string m.who, .slice m.ba m.bn m.bc, .bool m.again] 69)) w' from ⟨hx.1, h.next hx.2⟩)
      have D64 := Lib.hid (fun W (h : Ltr (wr.alloc (.cells #[.string m.topic, .string m.payload, .int .i64 m.qos, .bool m.retain, .slice m.pa m.pn m.pc, .string m.frm, .int .i64 m.til, .int .i64 m.seq, .string m.grp, .string m.who, .slice m.ba m.bn m.bc, .bool m.again] 69)) W) => (waits_any m W).mono fun x w' hx => show x = .returned (.bool m.w) ∧ Ltr (wr.alloc (.cells #[.string m.topic, .string m.payload, .int .i64 m.qos, .bool m.retain, .slice m.pa m.pn m.pc, .string m.frm, .int .i64 m.til, .int .i64 m.seq, .string m.grp, .string m.who, .slice m.ba m.bn m.bc, .bool m.again] 69)) w' from ⟨hx.1, h.next hx.2⟩)
      have D45 := Lib.hid (fun W (h : Ltr (wr.alloc (.cells #[.string m.topic, .string m.payload, .int .i64 m.qos, .bool m.retain, .slice m.pa m.pn m.pc, .string m.frm, .int .i64 m.til, .int .i64 m.seq, .string m.grp, .string m.who, .slice m.ba m.bn m.bc, .bool m.again] 69)) W) => (key_any m W).mono fun x w' hx => show x = .returned (.string m.topic) ∧ Ltr (wr.alloc (.cells #[.string m.topic, .string m.payload, .int .i64 m.qos, .bool m.retain, .slice m.pa m.pn m.pc, .string m.frm, .int .i64 m.til, .int .i64 m.seq, .string m.grp, .string m.who, .slice m.ba m.bn m.bc, .bool m.again] 69)) w' from ⟨hx.1, h.next hx.2⟩)
      unfold IV.agg at D63 D64
      unfold IV.msg at D45
      go_upto_region 7 with fail
      obtain ⟨wx, hwx⟩ : ∃ wx, wx = wr.alloc (.cells #[.string m.topic, .string m.payload, .int .i64 m.qos, .bool m.retain, .slice m.pa m.pn m.pc, .string m.frm, .int .i64 m.til, .int .i64 m.seq, .string m.grp, .string m.who, .slice m.ba m.bn m.bc, .bool m.again] 69) := ⟨_, rfl⟩
      rw [← hwx] at HX0 HL D63 D64 D45 ⊢
      obtain ⟨gz, hgz⟩ : ∃ gz, gz = wr.heap.size := ⟨_, rfl⟩
      rw [← hgz] at HX0 ⊢
      clear hwx hgz c0 c1 c2 c3 c4 c5 c6 c7 c8 c9 c10 c11 hlt0
      have hJ : Ltr wx wx := Below.refl _ _
      have HJ := Lib.hid hJ
      have KS := Lib.hid (fun W (h : Ltr wx W) => show W.cell? ⟨gz, 0, none⟩ = some (.string m.topic) ∧ W.cell? ⟨gz, 1, none⟩ = some (.string m.payload) ∧ W.cell? ⟨gz, 2, none⟩ = some (.int .i64 m.qos) ∧ W.cell? ⟨gz, 3, none⟩ = some (.bool m.retain) ∧ W.cell? ⟨gz, 4, none⟩ = some (.slice m.pa m.pn m.pc) ∧ W.cell? ⟨gz, 5, none⟩ = some (.string m.frm) ∧ W.cell? ⟨gz, 6, none⟩ = some (.int .i64 m.til) ∧ W.cell? ⟨gz, 7, none⟩ = some (.int .i64 m.seq) ∧ W.cell? ⟨gz, 8, none⟩ = some (.string m.grp) ∧ W.cell? ⟨gz, 9, none⟩ = some (.string m.who) ∧ W.cell? ⟨gz, 10, none⟩ = some (.slice m.ba m.bn m.bc) ∧ W.cell? ⟨gz, 11, none⟩ = some (.bool m.again) from by
        have hx := HX0.out.below h HX0.out.lt
        exact ⟨hx.cell 0, hx.cell 1, hx.cell 2, hx.cell 3, hx.cell 4, hx.cell 5, hx.cell 6, hx.cell 7, hx.cell 8, hx.cell 9, hx.cell 10, hx.cell 11⟩)
      obtain ⟨s0, s1, s2, s3, s4, s5, s6, s7, s8, s9, s10, s11⟩ := KS.out _ hJ
      clear hJ
      have he := eq_text m.topic key
      have he2 := eq_text m.who client
      by_cases ht : m.topic = key
      · rw [decide_eq_true ht] at he HBD
        clear ht
        cases hw : m.w
        · rw [hw] at D63 D64 HBD
          clear hw
          by_cases hq : m.who = client
          · rw [decide_eq_true hq] at he2 HBD
            clear hq
            go_wp2_with fail
            refine (D45.out _ HJ.out).mono ?_
            rintro x w5 ⟨rfl, hdw5⟩
            obtain ⟨s0, s1, s2, s3, s4, s5, s6, s7, s8, s9, s10, s11⟩ := KS.out _ hdw5
            have HJw5 := Lib.hid hdw5
            clear hdw5
            go_wp2_with fail
            refine (D64.out _ HJw5.out).mono ?_
            rintro x w6 ⟨rfl, hdw6⟩
            obtain ⟨s0, s1, s2, s3, s4, s5, s6, s7, s8, s9, s10, s11⟩ := KS.out _ hdw6
            have HJw6 := Lib.hid hdw6
            clear hdw6
            go_wp2_with fail
            refine (D63.out _ HJw6.out).mono ?_
            rintro x w7 ⟨rfl, hdw7⟩
            obtain ⟨s0, s1, s2, s3, s4, s5, s6, s7, s8, s9, s10, s11⟩ := KS.out _ hdw7
            have HJw7 := Lib.hid hdw7
            clear hdw7
            go_wp2_with fail
            have HGD := Lib.hid (show ∀ j, j < k + 1 → badI L key a client j = false from fun j hj => by
              by_cases e : j = k
              · rw [e, HBD.out]; rfl
              · exact HG.out j (by omega))
            clear s0 s1 s2 s3 s4 s5 s6 s7 s8 s9 s10 s11
            go_roundw
            case rel => exact ⟨k + 1, by omega, by go_num, Below.trans HL.out (HJw7.out.mono HL.out.size), HGD⟩
            case measure => simp [intOf]; omega
          · rw [decide_eq_false hq] at he2 HBD
            clear hq
            go_wp2_with fail
            refine (D45.out _ HJ.out).mono ?_
            rintro x w5 ⟨rfl, hdw5⟩
            obtain ⟨s0, s1, s2, s3, s4, s5, s6, s7, s8, s9, s10, s11⟩ := KS.out _ hdw5
            have HJw5 := Lib.hid hdw5
            clear hdw5
            go_wp2_with fail
            refine (D64.out _ HJw5.out).mono ?_
            rintro x w6 ⟨rfl, hdw6⟩
            obtain ⟨s0, s1, s2, s3, s4, s5, s6, s7, s8, s9, s10, s11⟩ := KS.out _ hdw6
            have HJw6 := Lib.hid hdw6
            clear hdw6
            go_wp2_with fail
            refine (D63.out _ HJw6.out).mono ?_
            rintro x w7 ⟨rfl, hdw7⟩
            obtain ⟨s0, s1, s2, s3, s4, s5, s6, s7, s8, s9, s10, s11⟩ := KS.out _ hdw7
            have HJw7 := Lib.hid hdw7
            clear hdw7
            go_wp2_with fail
            have HSF := Lib.hid (HBAD.out k HKL.out (by rw [HBD.out]; rfl))
            have HBE := Lib.hid (HB.out.trans (Below.mono (Below.trans HL.out (HJw7.out.mono HL.out.size)) HB.out.size))
            clear s0 s1 s2 s3 s4 s5 s6 s7 s8 s9 s10 s11
            go_ret
            exact ⟨by rw [HSF.out]; rfl, HBE.out⟩
        · rw [hw] at D63 D64 HBD
          clear hw
          by_cases hka : k < a
          · rw [decide_eq_true (by omega : (k : Int) < (a : Int))] at HBD
            go_wp2_with fail
            refine (D45.out _ HJ.out).mono ?_
            rintro x w5 ⟨rfl, hdw5⟩
            obtain ⟨s0, s1, s2, s3, s4, s5, s6, s7, s8, s9, s10, s11⟩ := KS.out _ hdw5
            have HJw5 := Lib.hid hdw5
            clear hdw5
            go_wp2_with fail
            refine (D64.out _ HJw5.out).mono ?_
            rintro x w6 ⟨rfl, hdw6⟩
            obtain ⟨s0, s1, s2, s3, s4, s5, s6, s7, s8, s9, s10, s11⟩ := KS.out _ hdw6
            have HJw6 := Lib.hid hdw6
            clear hdw6
            go_wp2_with fail
            have HSF := Lib.hid (HBAD.out k HKL.out (by rw [HBD.out]; rfl))
            have HBE := Lib.hid (HB.out.trans (Below.mono (Below.trans HL.out (HJw6.out.mono HL.out.size)) HB.out.size))
            clear s0 s1 s2 s3 s4 s5 s6 s7 s8 s9 s10 s11
            go_ret
            exact ⟨by rw [HSF.out]; rfl, HBE.out⟩
          · rw [decide_eq_false (by omega : ¬ (k : Int) < (a : Int))] at HBD
            go_wp2_with fail
            refine (D45.out _ HJ.out).mono ?_
            rintro x w5 ⟨rfl, hdw5⟩
            obtain ⟨s0, s1, s2, s3, s4, s5, s6, s7, s8, s9, s10, s11⟩ := KS.out _ hdw5
            have HJw5 := Lib.hid hdw5
            clear hdw5
            go_wp2_with fail
            refine (D64.out _ HJw5.out).mono ?_
            rintro x w6 ⟨rfl, hdw6⟩
            obtain ⟨s0, s1, s2, s3, s4, s5, s6, s7, s8, s9, s10, s11⟩ := KS.out _ hdw6
            have HJw6 := Lib.hid hdw6
            clear hdw6
            go_wp2_with fail
            refine (D63.out _ HJw6.out).mono ?_
            rintro x w7 ⟨rfl, hdw7⟩
            obtain ⟨s0, s1, s2, s3, s4, s5, s6, s7, s8, s9, s10, s11⟩ := KS.out _ hdw7
            have HJw7 := Lib.hid hdw7
            clear hdw7
            go_wp2_with fail
            have HGD := Lib.hid (show ∀ j, j < k + 1 → badI L key a client j = false from fun j hj => by
              by_cases e : j = k
              · rw [e, HBD.out]; rfl
              · exact HG.out j (by omega))
            clear s0 s1 s2 s3 s4 s5 s6 s7 s8 s9 s10 s11
            go_roundw
            case rel => exact ⟨k + 1, by omega, by go_num, Below.trans HL.out (HJw7.out.mono HL.out.size), HGD⟩
            case measure => simp [intOf]; omega
      · rw [decide_eq_false ht] at he HBD
        clear ht
        go_wp2_with fail
        refine (D45.out _ HJ.out).mono ?_
        rintro x w5 ⟨rfl, hdw5⟩
        obtain ⟨s0, s1, s2, s3, s4, s5, s6, s7, s8, s9, s10, s11⟩ := KS.out _ hdw5
        have HJw5 := Lib.hid hdw5
        clear hdw5
        go_wp2_with fail
        have HGD := Lib.hid (show ∀ j, j < k + 1 → badI L key a client j = false from fun j hj => by
          by_cases e : j = k
          · rw [e, HBD.out]; rfl
          · exact HG.out j (by omega))
        clear s0 s1 s2 s3 s4 s5 s6 s7 s8 s9 s10 s11
        go_roundw
        case rel => exact ⟨k + 1, by omega, by go_num, Below.trans HL.out (HJw5.out.mono HL.out.size), HGD⟩
        case measure => simp [intOf]; omega
    · have HE := Lib.hid (HG2.out fun j hj => HG.out j (by have := HN.out; omega))
      have HBE := Lib.hid (HB.out.trans (Below.mono hlt0 HB.out.size))
      clear hlt0
      go_wp2_with fail
      go_ret
      exact ⟨by rw [HE.out]; rfl, HBE.out⟩
end
end Go.Proofs.Ytkjghlmlfanafaa
