/- What is proved here: the document's own bytes of properties. Conditions: the properties stand where the slices say, few of them, of few bytes. What is proved here: PropEncodes answers true for every place and properties. Condition: what the rows list of the package's variables. What is proved here: the document's writer among the blocks of a call's own. Conditions: those that each theorem names. -/
import Derived.Test.YtfkimpcaokgldaaGreatDoorRck06
import Derived.Test.YtfkimpcaokgldaaGreatDoorRwr04
import Derived.Test.YtfkimpcaokgldaaGreatDoorMad08
namespace Go.Proofs.YtfkimpcaokgldaaGreatDoor
set_option maxRecDepth 100000
open Go.RowKit Go.Extern.Stop Go.Stop Go.Extern
theorem rvar04_any (n : Nat) (hn : n ≤ 268435455) (w : World) : Calls Tryz.prog 78 #[.int .i64 n] w fun x w' => x = .returned (.string ⟨(vb n).toArray⟩) ∧ Below w.heap.size w w' := by
  have HP := Lib.hid (ref_put n hn w)
  clear hn
  go_enter Tryz.func78, Tryz.ntmps78
  go_wp2_with fail
  refine HP.out.mono ?_
  rintro x w1 ⟨rfl, hb⟩
  have HB := Lib.hid hb
  clear hb HP
  go_wp2_with fail
  go_ret
  exact ⟨rfl, HB.out⟩
/-- What the document's Encode holds. -/
structure RnIn (w W : World) (gW : Nat) (V : EV) (A : Option Addr) (L : PL) : Prop where
  pb : PbIn w W A L
  rb : Blk W w.heap.size 40 #[.int .i64 0, .int .i64 0, .int .i64 0]
  wr : RWObj W gW V
  gz : w.heap.size < gW
section
variable {w W W' : World} {gW bx : Nat} {V V' : EV} {A : Option Addr} {L : PL} {t : TypeId} {cs : Array Value}
theorem RnIn.below (h : RnIn w W gW V A L) (hb : Below W.heap.size W W') : RnIn w W' gW V A L := ⟨h.pb.below hb, h.rb.below hb h.rb.lt, h.wr.below hb, h.gz⟩
theorem RnIn.step (h : RnIn w W gW V A L) (hn : RWNext W W' gW V') : RnIn w W' gW V' A L := by
  refine ⟨⟨hn.2.later h.pb.bel (fun b hb => ?_) h.pb.bel.size, h.pb.rd.fr hn.2 fun k hk => ?_⟩, h.rb.fr hn.2 fun hm => ?_, hn.1, h.gz⟩
  · rw [List.mem_singleton] at hb
    have := h.gz
    omega
  · rw [List.mem_singleton] at hk
    subst hk
    refine ⟨Nat.le_of_lt h.gz, fun cs hc => ?_⟩
    obtain ⟨l, a, hb, _⟩ := h.wr
    exact hb.other hc (by decide) rfl
  · rw [List.mem_singleton] at hm
    have := h.gz
    omega
theorem RnIn.blk (h : RnIn w W gW V A L) (hn : RWNext W W' gW V') (hb : Blk W bx t cs) (ht : t ≠ 75) : Blk W' bx t cs := by
  refine hb.fr hn.2 fun hm => ?_
  rw [List.mem_singleton] at hm
  subst hm
  obtain ⟨l, a, hw, _⟩ := h.wr
  exact hb.other hw ht rfl
def RenSays (w : World) (q : EnR) (x : Ending) (w' : World) : Prop :=
  ∃ no : Nat, ∃ r : Int, ∃ a : Nat, x = .returned (.tuple #[.string ⟨q.L.toArray⟩, .agg #[.int .i64 no, .int .i64 r, .int .i64 a]]) ∧ no = q.no ∧ (q.no ≠ 0 → r = q.r ∧ a = q.at_) ∧ Below w.heap.size w w'
theorem encA_0 (n : Int) (s : ByteArray) : encA ⟨((0 : Nat) : Int), n, s⟩ = ⟨0, 0, []⟩ := by unfold encA; simp
set_option maxHeartbeats 4000000 in
theorem rencode_any (place : Int) (n c : Nat) (hn : n = L.length) (h : PIn w w.heap.size A L) (hS : SmallP L) (hcap : n ≤ c) : Calls Tryz.prog 31 #[.int .i64 place, .slice A n c] w (RenSays w (encR place L)) := by
  obtain ⟨q, hq⟩ : ∃ q, q = encR place L := ⟨_, rfl⟩
  rw [← hq]
  have HQ := Lib.hid hq
  have HN := Lib.hid hn
  have HS := Lib.hid hS
  have hn70 : n ≤ 70 := by have := hS.1; omega
  have hb0 : Below w.heap.size w (w.alloc (.cells #[.int .i64 0, .int .i64 0, .int .i64 0] 40)) := (Below.refl _ _).alloc (Nat.le_refl _) _
  have hi0 : RcIn w (w.alloc (.cells #[.int .i64 0, .int .i64 0, .int .i64 0] 40)) A L := ⟨⟨hb0, h.below hb0⟩, Blk.made w _ _⟩
  have HC := Lib.hid (rcheck_any place n c hn (hi0.pb.rd.mono hb0.size) (by omega) hcap)
  have HI0 := Lib.hid hi0
  clear hq hn h hS hb0 hi0
  obtain ⟨⟨cn, cr, ca⟩, hc⟩ : ∃ z, z = chkL place L := ⟨_, rfl⟩
  rw [← hc] at HC
  have HCH := Lib.hid hc
  clear hc
  by_cases hcn : cn = 0
  · subst hcn
    have hx : q = if (wrAll (actsL6 L)).no = 0 then ⟨0, 129, 0, vb (wrAll (actsL6 L)).L.length ++ (wrAll (actsL6 L)).L⟩ else ⟨(wrAll (actsL6 L)).no, 129, (wrAll (actsL6 L)).at_, []⟩ := by rw [HQ.out]; unfold encR; rw [← HCH.out, if_pos rfl]
    have HQX := Lib.hid hx
    have HC0 := Lib.hid (show Calls Tryz.prog 76 #[.int .i64 place, .slice A n c] (w.alloc (.cells #[.int .i64 0, .int .i64 0, .int .i64 0] 40)) (fun x w' => x = .returned (.agg #[.int .i64 0, .int .i64 cr, .int .i64 (ca : Int)]) ∧ Below (w.alloc (.cells #[.int .i64 0, .int .i64 0, .int .i64 0] 40)).heap.size (w.alloc (.cells #[.int .i64 0, .int .i64 0, .int .i64 0] 40)) w') from HC.out)
    clear hx HQ HCH HC
    go_enter Tryz.func31, Tryz.ntmps31
    go_wp2_with fail
    refine HC0.out.mono ?_
    rintro x w1 ⟨rfl, hb1⟩
    have hi1 := HI0.out.below hb1
    have hb2 : Below w1.heap.size w1 (w1.alloc (.cells #[.int .i64 0, .int .i64 cr, .int .i64 ca] 40)) := (Below.refl _ _).alloc (Nat.le_refl _) _
    have f0 := (Blk.made w1 40 #[.int .i64 0, .int .i64 cr, .int .i64 ca]).cell 0
    have hi2 := hi1.below hb2
    have hb3 : Below (w1.alloc (.cells #[.int .i64 0, .int .i64 cr, .int .i64 ca] 40)).heap.size (w1.alloc (.cells #[.int .i64 0, .int .i64 cr, .int .i64 ca] 40)) ((w1.alloc (.cells #[.int .i64 0, .int .i64 cr, .int .i64 ca] 40)).alloc (.cells #[.string ⟨#[]⟩, .int .i64 0, .int .i64 0] 75)) := (Below.refl _ _).alloc (Nat.le_refl _) _
    have hi3 := hi2.below hb3
    have HR0 : Hid (RnIn w ((w1.alloc (.cells #[.int .i64 0, .int .i64 cr, .int .i64 ca] 40)).alloc (.cells #[.string ⟨#[]⟩, .int .i64 0, .int .i64 0] 75)) (w1.heap.size + 1) (wrAll (actsL6 (L.take 0))) A L) := Lib.hid ⟨hi3.pb, hi3.box, by
      have h := RWObj.made (w1.alloc (.cells #[.int .i64 0, .int .i64 cr, .int .i64 ca] 40))
      rw [World.size_alloc] at h
      exact h, by have := hi1.box.lt; omega⟩
    clear hb1 hi1 hb2 hi2 hb3 hi3 HC0 HI0
    go_wp2_with fail
    go_loopw [8] (fun j wr => ∃ k : Nat, k ≤ n ∧ j = .int .i64 k ∧ Hid (RnIn w wr (w1.heap.size + 1) (wrAll (actsL6 (L.take k))) A L)) (fun j _ => n - (intOf j).toNat)
    case atStart => exact ⟨0, by omega, rfl, HR0⟩
    case round =>
      obtain ⟨k, hk, rfl, HI⟩ := hrel
      by_cases hlt : k < n
      · have hkL : k < L.length := by have := HN.out; omega
        obtain ⟨g, off, hA, hc, _⟩ := HI.out.pb.rd (by omega)
        subst hA
        have hcw := hc k hkL
        have hsz := SmallP.at HS.out k hkL
        obtain ⟨p, hp⟩ : ∃ p, p = L.getD k p0 := ⟨_, rfl⟩
        rw [← hp] at hcw hsz
        have hwl := wr6_len HS.out k
        have hsn : stepL (wrAll (actsL6 (L.take k))) (actsP p) = wrAll (actsL6 (L.take (k + 1))) := by
          rw [← wr_snoc6, List.take_succ_eq_append_getElem hkL, hp, List.getD_eq_getElem?_getD, List.getElem?_eq_getElem hkL]
          rfl
        have HSN := Lib.hid hsn
        obtain ⟨V, hV⟩ : ∃ V, V = wrAll (actsL6 (L.take k)) := ⟨_, rfl⟩
        rw [← hV] at HI hwl HSN
        obtain ⟨pi, pn, ps, pv⟩ := p
        simp only at hsz
        obtain ⟨hz1, hz2⟩ := hsz
        obtain ⟨c0, c1, c2, c3⟩ := hcw
        have hb1 : Below wr.heap.size wr (wr.alloc (.cells #[.int .i64 pi, .int .i64 pn, .string ps, .string pv] 96)) := (Below.refl _ _).alloc (Nat.le_refl _) _
        have HI1 := Lib.hid (HI.out.below hb1)
        have HB1 := Lib.hid (Blk.made wr 96 #[.int .i64 pi, .int .i64 pn, .string ps, .string pv])
        have e0 := HB1.out.cell 0
        have HD1 := Lib.hid (show Calls Tryz.prog 32 #[.pointer (some ⟨w1.heap.size + 1, 0, none⟩), .agg #[.int .i64 5, .int .i64 pi, .string ⟨#[]⟩]] _ _ from rwdo_any HI1.out.wr (by omega) ⟨5, pi, ⟨#[]⟩⟩ (by show (⟨#[]⟩ : ByteArray).size ≤ _; decide))
        rw [encA_5] at HD1
        have hl1 : (stepW V (varE pi)).L.length ≤ 63844 := by
          have h1 := stepW_len V (varE pi)
          have h2 := varE_len pi
          omega
        have HTY := Lib.hid (fun W : World => rtype06_any pi W)
        clear hc hb1 hp hV hsn hwl
        go_wp2_with fail
        refine HD1.out.mono ?_
        rintro x w3 ⟨rfl, hN3⟩
        have HI3 := Lib.hid (HI1.out.step hN3)
        have HB3 := Lib.hid (HI1.out.blk hN3 HB1.out (by decide))
        have b0 := HB3.out.cell 0
        have b1 := HB3.out.cell 1
        have b2 := HB3.out.cell 2
        have b3 := HB3.out.cell 3
        clear hN3 HD1
        rcases typeI_vals pi with ht | ht | ht | ht | ht | ht | ht | ht
        · have hst := acts_0 V (p := ⟨pi, pn, ps, pv⟩) ht
          rw [HSN.out] at hst
          have HST := Lib.hid hst
          rw [ht] at HTY
          clear hst ht
          go_wp2_with fail
          refine (HTY.out _).mono ?_
          rintro x w4 ⟨rfl, rfl⟩
          have HD4 := Lib.hid (show Calls Tryz.prog 32 #[.pointer (some ⟨w1.heap.size + 1, 0, none⟩), .agg #[.int .i64 0, .int .i64 pn, .string ⟨#[]⟩]] _ _ from rwdo_any HI3.out.wr (by omega) ⟨0, pn, ⟨#[]⟩⟩ (by show (⟨#[]⟩ : ByteArray).size ≤ _; decide))
          go_wp2_with fail
          refine HD4.out.mono ?_
          rintro x w5 ⟨rfl, hN5⟩
          have HI5 := Lib.hid (HI3.out.step hN5)
          have HX := Lib.hid (show RnIn w w5 (w1.heap.size + 1) (wrAll (actsL6 (L.take (k + 1)))) _ L from by
            rw [HST.out]
            have h := HI5.out
            rw [show encA ⟨0, pn, ⟨#[]⟩⟩ = ⟨0, 0, []⟩ from encA_0 pn ⟨#[]⟩, stepW_none] at h
            exact h)
          clear hN5 HD4
          go_wp2_with fail
          go_roundw
          case rel => exact ⟨k + 1, by omega, by go_num, HX⟩
          case measure => simp [intOf]; omega
        · have hst := acts_1 V (p := ⟨pi, pn, ps, pv⟩) ht
          rw [HSN.out] at hst
          have HST := Lib.hid hst
          rw [ht] at HTY
          clear hst ht
          go_wp2_with fail
          refine (HTY.out _).mono ?_
          rintro x w4 ⟨rfl, rfl⟩
          have HD4 := Lib.hid (show Calls Tryz.prog 32 #[.pointer (some ⟨w1.heap.size + 1, 0, none⟩), .agg #[.int .i64 1, .int .i64 pn, .string ⟨#[]⟩]] _ _ from rwdo_any HI3.out.wr (by omega) ⟨1, pn, ⟨#[]⟩⟩ (by show (⟨#[]⟩ : ByteArray).size ≤ _; decide))
          go_wp2_with fail
          refine HD4.out.mono ?_
          rintro x w5 ⟨rfl, hN5⟩
          have HI5 := Lib.hid (HI3.out.step hN5)
          have HX := Lib.hid (show RnIn w w5 (w1.heap.size + 1) (wrAll (actsL6 (L.take (k + 1)))) _ L from by rw [HST.out]; exact HI5.out)
          clear hN5 HD4
          go_wp2_with fail
          go_roundw
          case rel => exact ⟨k + 1, by omega, by go_num, HX⟩
          case measure => simp [intOf]; omega
        · have hst := acts_2 V (p := ⟨pi, pn, ps, pv⟩) ht
          rw [HSN.out] at hst
          have HST := Lib.hid hst
          rw [ht] at HTY
          clear hst ht
          go_wp2_with fail
          refine (HTY.out _).mono ?_
          rintro x w4 ⟨rfl, rfl⟩
          have HD4 := Lib.hid (show Calls Tryz.prog 32 #[.pointer (some ⟨w1.heap.size + 1, 0, none⟩), .agg #[.int .i64 2, .int .i64 pn, .string ⟨#[]⟩]] _ _ from rwdo_any HI3.out.wr (by omega) ⟨2, pn, ⟨#[]⟩⟩ (by show (⟨#[]⟩ : ByteArray).size ≤ _; decide))
          go_wp2_with fail
          refine HD4.out.mono ?_
          rintro x w5 ⟨rfl, hN5⟩
          have HI5 := Lib.hid (HI3.out.step hN5)
          have HX := Lib.hid (show RnIn w w5 (w1.heap.size + 1) (wrAll (actsL6 (L.take (k + 1)))) _ L from by rw [HST.out]; exact HI5.out)
          clear hN5 HD4
          go_wp2_with fail
          go_roundw
          case rel => exact ⟨k + 1, by omega, by go_num, HX⟩
          case measure => simp [intOf]; omega
        · have hst := acts_4 V (p := ⟨pi, pn, ps, pv⟩) ht
          rw [HSN.out] at hst
          have HST := Lib.hid hst
          rw [ht] at HTY
          clear hst ht
          go_wp2_with fail
          refine (HTY.out _).mono ?_
          rintro x w4 ⟨rfl, rfl⟩
          have HD4 := Lib.hid (show Calls Tryz.prog 32 #[.pointer (some ⟨w1.heap.size + 1, 0, none⟩), .agg #[.int .i64 4, .int .i64 pn, .string ⟨#[]⟩]] _ _ from rwdo_any HI3.out.wr (by omega) ⟨4, pn, ⟨#[]⟩⟩ (by show (⟨#[]⟩ : ByteArray).size ≤ _; decide))
          go_wp2_with fail
          refine HD4.out.mono ?_
          rintro x w5 ⟨rfl, hN5⟩
          have HI5 := Lib.hid (HI3.out.step hN5)
          have HX := Lib.hid (show RnIn w w5 (w1.heap.size + 1) (wrAll (actsL6 (L.take (k + 1)))) _ L from by rw [HST.out]; exact HI5.out)
          clear hN5 HD4
          go_wp2_with fail
          go_roundw
          case rel => exact ⟨k + 1, by omega, by go_num, HX⟩
          case measure => simp [intOf]; omega
        · have hst := acts_5 V (p := ⟨pi, pn, ps, pv⟩) ht
          rw [HSN.out] at hst
          have HST := Lib.hid hst
          rw [ht] at HTY
          clear hst ht
          go_wp2_with fail
          refine (HTY.out _).mono ?_
          rintro x w4 ⟨rfl, rfl⟩
          have HD4 := Lib.hid (show Calls Tryz.prog 32 #[.pointer (some ⟨w1.heap.size + 1, 0, none⟩), .agg #[.int .i64 5, .int .i64 pn, .string ⟨#[]⟩]] _ _ from rwdo_any HI3.out.wr (by omega) ⟨5, pn, ⟨#[]⟩⟩ (by show (⟨#[]⟩ : ByteArray).size ≤ _; decide))
          go_wp2_with fail
          refine HD4.out.mono ?_
          rintro x w5 ⟨rfl, hN5⟩
          have HI5 := Lib.hid (HI3.out.step hN5)
          have HX := Lib.hid (show RnIn w w5 (w1.heap.size + 1) (wrAll (actsL6 (L.take (k + 1)))) _ L from by rw [HST.out]; exact HI5.out)
          clear hN5 HD4
          go_wp2_with fail
          go_roundw
          case rel => exact ⟨k + 1, by omega, by go_num, HX⟩
          case measure => simp [intOf]; omega
        · have hst := acts_6 V (p := ⟨pi, pn, ps, pv⟩) ht
          rw [HSN.out] at hst
          have HST := Lib.hid hst
          rw [ht] at HTY
          clear hst ht
          go_wp2_with fail
          refine (HTY.out _).mono ?_
          rintro x w4 ⟨rfl, rfl⟩
          have HD4 := Lib.hid (show Calls Tryz.prog 32 #[.pointer (some ⟨w1.heap.size + 1, 0, none⟩), .agg #[.int .i64 6, .int .i64 0, .string ps]] _ _ from rwdo_any HI3.out.wr (by omega) ⟨6, 0, ps⟩ (by show ps.size ≤ _; omega))
          go_wp2_with fail
          refine HD4.out.mono ?_
          rintro x w5 ⟨rfl, hN5⟩
          have HI5 := Lib.hid (HI3.out.step hN5)
          have HX := Lib.hid (show RnIn w w5 (w1.heap.size + 1) (wrAll (actsL6 (L.take (k + 1)))) _ L from by rw [HST.out]; exact HI5.out)
          clear hN5 HD4
          go_wp2_with fail
          go_roundw
          case rel => exact ⟨k + 1, by omega, by go_num, HX⟩
          case measure => simp [intOf]; omega
        · have hst := acts_7 V (p := ⟨pi, pn, ps, pv⟩) ht
          rw [HSN.out] at hst
          have HST := Lib.hid hst
          rw [ht] at HTY
          clear hst ht
          go_wp2_with fail
          refine (HTY.out _).mono ?_
          rintro x w4 ⟨rfl, rfl⟩
          have HD4 := Lib.hid (show Calls Tryz.prog 32 #[.pointer (some ⟨w1.heap.size + 1, 0, none⟩), .agg #[.int .i64 7, .int .i64 0, .string ps]] _ _ from rwdo_any HI3.out.wr (by omega) ⟨7, 0, ps⟩ (by show ps.size ≤ _; omega))
          go_wp2_with fail
          refine HD4.out.mono ?_
          rintro x w5 ⟨rfl, hN5⟩
          have HI5 := Lib.hid (HI3.out.step hN5)
          have HX := Lib.hid (show RnIn w w5 (w1.heap.size + 1) (wrAll (actsL6 (L.take (k + 1)))) _ L from by rw [HST.out]; exact HI5.out)
          clear hN5 HD4
          go_wp2_with fail
          go_roundw
          case rel => exact ⟨k + 1, by omega, by go_num, HX⟩
          case measure => simp [intOf]; omega
        · have hst := acts_9 V (p := ⟨pi, pn, ps, pv⟩) ht
          rw [HSN.out] at hst
          have HST := Lib.hid hst
          rw [ht] at HTY
          clear hst ht
          go_wp2_with fail
          refine (HTY.out _).mono ?_
          rintro x w4 ⟨rfl, rfl⟩
          have HD4 := Lib.hid (show Calls Tryz.prog 32 #[.pointer (some ⟨w1.heap.size + 1, 0, none⟩), .agg #[.int .i64 6, .int .i64 0, .string ps]] _ _ from rwdo_any HI3.out.wr (by omega) ⟨6, 0, ps⟩ (by show ps.size ≤ _; omega))
          go_wp2_with fail
          refine HD4.out.mono ?_
          rintro x w5 ⟨rfl, hN5⟩
          have HI5 := Lib.hid (HI3.out.step hN5)
          have b3 := (HI3.out.blk hN5 HB3.out (by decide)).cell 3
          have hl5 : (stepW (stepW V (varE pi)) (encA ⟨6, 0, ps⟩)).L.length ≤ 130000 := by
            have h1 := stepW_len (stepW V (varE pi)) (encA ⟨6, 0, ps⟩)
            have h2 := encA_len ⟨6, 0, ps⟩
            simp only at h2
            omega
          have HD6 := Lib.hid (show Calls Tryz.prog 32 #[.pointer (some ⟨w1.heap.size + 1, 0, none⟩), .agg #[.int .i64 6, .int .i64 0, .string pv]] _ _ from rwdo_any HI5.out.wr (by omega) ⟨6, 0, pv⟩ (by show pv.size ≤ _; omega))
          clear hN5 hl5 HD4
          go_wp2_with fail
          refine HD6.out.mono ?_
          rintro x w7 ⟨rfl, hN7⟩
          have HX := Lib.hid (show RnIn w w7 (w1.heap.size + 1) (wrAll (actsL6 (L.take (k + 1)))) _ L from by rw [HST.out]; exact HI5.out.step hN7)
          clear hN7 HD6
          go_wp2_with fail
          go_roundw
          case rel => exact ⟨k + 1, by omega, by go_num, HX⟩
          case measure => simp [intOf]; omega
      · have htk : L.take k = L := List.take_of_length_le (by have := HN.out; omega)
        rw [htk] at HI
        have hwl := wr6_len HS.out L.length
        rw [List.take_length] at hwl
        obtain ⟨V, hV⟩ : ∃ V, V = wrAll (actsL6 L) := ⟨_, rfl⟩
        rw [← hV] at HI hwl HQX
        obtain ⟨no, at_, VL⟩ := V
        simp only at hwl HQX
        clear hV htk
        obtain ⟨l, a, hwb, hw1, hw2⟩ := HI.out.wr
        simp only at hwb hw1 hw2
        have c1 := hwb.cell 1
        by_cases hno : no = 0
        · subst hno
          obtain rfl := hw1 rfl
          have c0 := hwb.cell 0
          have hvs : (⟨l.toArray⟩ : ByteArray).size = l.length := rfl
          have hvd : (⟨l.toArray⟩ : ByteArray).data.toList = l := by simp
          obtain ⟨vs, hvs'⟩ : ∃ vs : ByteArray, vs = ⟨l.toArray⟩ := ⟨_, rfl⟩
          rw [← hvs'] at hvs hvd
          have c0' : wr.cell? ⟨w1.heap.size + 1, 0, none⟩ = some (.string vs) := by rw [hvs']; exact c0
          have hvz : vs.size ≤ 63840 := by omega
          obtain ⟨vbs, hvb⟩ : ∃ vbs : ByteArray, vbs = ⟨(vb vs.size).toArray⟩ := ⟨_, rfl⟩
          have hvbz : vbs.size = (vb vs.size).length := by rw [hvb]; rfl
          have hvb4 := (vb_len vs.size (by omega)).2
          obtain ⟨cat, hcat, hce, _⟩ := cat_run vbs vs (by omega)
          have hfin : cat = ⟨(vb l.length ++ l).toArray⟩ := ba_eq (by rw [hce, hvb, ← hvs]; simp [hvd])
          have HV := Lib.hid (fun W : World => rvar04_any vs.size (by omega) W)
          rw [← hvb] at HV
          have HFIN := Lib.hid hfin
          have HI6 := Lib.hid (fun (W6 : World) (hb : Below wr.drew.heap.size wr.drew W6) => show RnIn w W6 (w1.heap.size + 1) ⟨0, at_, l⟩ A L ∧ W6.cell? ⟨w1.heap.size + 1, 0, none⟩ = some (.string vs) from
            have h1 : RnIn w wr.drew (w1.heap.size + 1) ⟨0, at_, l⟩ A L := HI.out.below (below_drewN (Below.refl _ _) 1)
            ⟨h1.below hb, (World.cell?_of_block (w := wr.drew) (hb.block _ hwb.lt)).trans c0'⟩)
          clear c0 hvs hvd hvs' hvb hvbz hvb4 hce hfin hwb hw1 hw2 HR0
          go_wp2_with fail
          go_region_with (refine (HV.out _).mono ?_; rintro x w6 ⟨rfl, hb6⟩; obtain ⟨h6, c6⟩ := HI6.out w6 hb6; obtain ⟨q0, q1, q2, p0', p1', p2', x1, y1, x2, y2, k2, l2, z0, z1, z2⟩ := fbox3 h6.rb (.int .i64 0) (.int .i64 0) (.int .i64 0); have HT := Lib.hid (((h6.pb.bel.setCell (p := ⟨w.heap.size, 0, none⟩) (Nat.le_refl _) (.int .i64 0)).setCell (p := ⟨w.heap.size, 1, none⟩) (Nat.le_refl _) (.int .i64 0)).setCell (p := ⟨w.heap.size, 2, none⟩) (Nat.le_refl _) (.int .i64 0)))
          all_goals
            go_wp2_with fail
            refine bodyPost_ret (v := .tuple #[.string cat, .agg #[.int .i64 0, .int .i64 0, .int .i64 0]]) (by simp [results, Tryz.results31, go_sem, z0, z1, z2]) rfl ?_
            rw [HQX.out, if_pos trivial, HFIN.out]
            exact ⟨0, 0, 0, rfl, rfl, fun h => absurd rfl h, HT.out⟩
        · have hnb : ((no : Int) == 0) = false := beq_eq_false_iff_ne.2 (by omega)
          have hni : ¬ ((no : Int) = 0) := by omega
          obtain rfl := hw2 hno
          have c2 := hwb.cell 2
          obtain ⟨q0, q1, q2, p0', p1', p2', x1, y1, x2, y2, k2, l2, z0, z1, z2⟩ := fbox3 HI.out.rb (.int .i64 no) (.int .i64 129) (.int .i64 a)
          have HT0 := ((HI.out.pb.bel.setCell (p := ⟨w.heap.size, 0, none⟩) (Nat.le_refl _) (.int .i64 no)).setCell (p := ⟨w.heap.size, 1, none⟩) (Nat.le_refl _) (.int .i64 129)).setCell (p := ⟨w.heap.size, 2, none⟩) (Nat.le_refl _) (.int .i64 a)
          have HT := Lib.hid (below_drewN HT0 1)
          have HNO := Lib.hid hno
          clear hwb hw1 hw2 HT0 HR0 hno
          go_wp2_with fail
          go_region
          all_goals
            go_wp2_with fail
            refine bodyPost_ret (v := .tuple #[.string ⟨#[]⟩, .agg #[.int .i64 no, .int .i64 129, .int .i64 a]]) (by simp [results, Tryz.results31, go_sem, z0, z1, z2]) rfl ?_
            rw [HQX.out, if_neg HNO.out]
            exact ⟨no, 129, a, rfl, rfl, fun _ => ⟨rfl, rfl⟩, HT.out⟩
  · have hcb : ((cn : Int) == 0) = false := beq_eq_false_iff_ne.2 (by omega)
    have hci : ¬ ((cn : Int) = 0) := by omega
    have hx : q = ⟨cn, cr, ca, []⟩ := by rw [HQ.out]; unfold encR; rw [← HCH.out, if_neg hcn]
    have HQX := Lib.hid hx
    have HCN := Lib.hid hcn
    clear hx hcn
    go_enter Tryz.func31, Tryz.ntmps31
    go_wp2_with fail
    refine HC.out.mono ?_
    rintro x w1 ⟨rfl, hb1⟩
    have hi1 := HI0.out.below hb1
    have hb2 : Below w1.heap.size w1 (w1.alloc (.cells #[.int .i64 cn, .int .i64 cr, .int .i64 ca] 40)) := (Below.refl _ _).alloc (Nat.le_refl _) _
    have hi2' := hi1.below hb2
    have hbk := Blk.made w1 40 #[.int .i64 cn, .int .i64 cr, .int .i64 ca]
    have f0 := hbk.cell 0
    have f1 := hbk.cell 1
    have f2 := hbk.cell 2
    obtain ⟨q0, q1, q2, p0', p1', p2', x1, y1, x2, y2, k2, l2, z0, z1, z2⟩ := fbox3 hi2'.box (.int .i64 cn) (.int .i64 cr) (.int .i64 ca)
    have HT0 := ((hi2'.pb.bel.setCell (p := ⟨w.heap.size, 0, none⟩) (Nat.le_refl _) (.int .i64 cn)).setCell (p := ⟨w.heap.size, 1, none⟩) (Nat.le_refl _) (.int .i64 cr)).setCell (p := ⟨w.heap.size, 2, none⟩) (Nat.le_refl _) (.int .i64 ca)
    have HT := Lib.hid (below_drewN HT0 1)
    clear HT0
    clear hb1 hi1 hb2 hi2' hbk HC HI0
    simp only at f0 ⊢
    go_wp2_with fail
    go_region
    all_goals
      go_wp2_with fail
      refine bodyPost_ret (v := .tuple #[.string ⟨#[]⟩, .agg #[.int .i64 cn, .int .i64 cr, .int .i64 ca]]) (by simp [results, Tryz.results31, go_sem, z0, z1, z2]) rfl ?_
      rw [HQX.out]
      exact ⟨cn, cr, ca, rfl, rfl, fun _ => ⟨rfl, rfl⟩, HT.out⟩
end
set_option maxRecDepth 100000
open Go.RowKit Go.Extern.Stop Go.Stop Go.Extern
theorem err_any0 {w : World} {S : Nat → Addr} {r r' : Int} {no a a' : Nat} {e : Value} (h : ErrOf w S r no a e) (hr : no ≠ 0 → r' = r ∧ a' = a) : ErrOf w S r' no a' e := by
  by_cases h0 : no = 0
  · unfold ErrOf at *
    rw [if_pos h0] at h ⊢
    exact h
  · obtain ⟨rfl, rfl⟩ := hr h0
    exact h
section
variable {w : World} {S : Nat → Addr} {A : Option Addr} {L : PL}
end
end Go.Proofs.YtfkimpcaokgldaaGreatDoor
namespace Go.Proofs.YtfkimpcaokgldaaGreatDoor
set_option maxRecDepth 100000
open Go.RowKit Go.Extern.Stop Go.Stop Go.Extern
section
variable {X : List Nat} {w0 w w' : World} {L : OL} {g : Nat} {c : Array Value} {V : EV} {l : List UInt8} {a : Nat}
theorem Own.wr (h : Own X w0 w L) (i : Nat) (hi : L[i]? = some (g, 75, #[.string ⟨l.toArray⟩, .int .i64 V.no, .int .i64 a])) (h1 : V.no = 0 → l = V.L) (h2 : V.no ≠ 0 → a = V.at_) : RWObj w g V := ⟨l, a, h.get i hi, h1, h2⟩
theorem Own.wstep (h : Own X w0 w L) (i : Nat) (hi : L[i]? = some (g, 75, c)) (hn : RWNext w w' g V) : ∃ (l : List UInt8) (a : Nat), Own X w0 w' (L.set i (g, 75, #[.string ⟨l.toArray⟩, .int .i64 V.no, .int .i64 a])) ∧ (V.no = 0 → l = V.L) ∧ (V.no ≠ 0 → a = V.at_) := by
  obtain ⟨⟨l, a, hb, h1, h2⟩, hf⟩ := hn
  exact ⟨l, a, h.put i hi hf hb, h1, h2⟩
theorem encA_1 (n : Int) (s : ByteArray) : encA ⟨1, n, s⟩ = numE 1 n := by unfold encA; rw [if_pos rfl]
theorem encA_2 (n : Int) (s : ByteArray) : encA ⟨2, n, s⟩ = numE 2 n := by unfold encA; simp
theorem encA_6 (n : Int) (s : ByteArray) : encA ⟨6, n, s⟩ = textE s := by unfold encA; simp
theorem encA_7 (n : Int) (s : ByteArray) : encA ⟨7, n, s⟩ = binE s := by unfold encA; simp
theorem encA_8 (n : Int) (l : List UInt8) : encA ⟨8, n, ⟨l.toArray⟩⟩ = ⟨0, 0, l⟩ := by unfold encA; simp
theorem rwdo_num1 (h : RWObj w g V) (hl : V.L.length ≤ 900000) (n : Int) : Calls Tryz.prog 32 #[.pointer (some ⟨g, 0, none⟩), .agg #[.int .i64 1, .int .i64 n, .string ⟨#[]⟩]] w fun x w' => x = .returned (.tuple #[]) ∧ RWNext w w' g (stepW V (numE 1 n)) := by
  have h := rwdo_any h hl ⟨1, n, ⟨#[]⟩⟩ (Nat.zero_le _)
  rw [encA_1] at h
  exact h
theorem rwdo_num2 (h : RWObj w g V) (hl : V.L.length ≤ 900000) (n : Int) : Calls Tryz.prog 32 #[.pointer (some ⟨g, 0, none⟩), .agg #[.int .i64 2, .int .i64 n, .string ⟨#[]⟩]] w fun x w' => x = .returned (.tuple #[]) ∧ RWNext w w' g (stepW V (numE 2 n)) := by
  have h := rwdo_any h hl ⟨2, n, ⟨#[]⟩⟩ (Nat.zero_le _)
  rw [encA_2] at h
  exact h
theorem rwdo_raw (h : RWObj w g V) (hl : V.L.length ≤ 900000) (l : List UInt8) (hs : l.length ≤ 65535) : Calls Tryz.prog 32 #[.pointer (some ⟨g, 0, none⟩), .agg #[.int .i64 8, .int .i64 0, .string ⟨l.toArray⟩]] w fun x w' => x = .returned (.tuple #[]) ∧ RWNext w w' g (stepW V ⟨0, 0, l⟩) := by
  have h := rwdo_any h hl ⟨8, 0, ⟨l.toArray⟩⟩ (by rw [bsize]; exact hs)
  rw [encA_8] at h
  exact h
theorem w0_obj (h : Own X w0 w L) (i : Nat) (hi : L[i]? = some (g, 75, #[.string ⟨#[]⟩, .int .i64 0, .int .i64 0])) : RWObj w g Go.Proofs.YtfkimpcaokgldaaGreatDoor.w0 := ⟨[], 0, h.get i hi, fun _ => rfl, fun h => absurd rfl h⟩
end
theorem frf_ok {P : Program} {f : FuncId} {args : Array Value} {w : World} {first : Int} {t : ByteArray} (h : Calls P f args w (FrF w ⟨e00, first, t⟩)) : Calls P f args w fun x w' => x = .returned (.tuple #[.agg #[.int .i64 first, .string t], .agg #[.int .i64 0, .int .i64 0, .int .i64 0]]) ∧ Below w.heap.size w w' := h.mono fun _ _ h => ⟨h.1, h.2⟩
theorem frf_bad {P : Program} {f : FuncId} {args : Array Value} {w : World} {first : Int} {t : ByteArray} {no at_ : Nat} {r : Int} (h : Calls P f args w (FrF w ⟨⟨no, r, at_⟩, first, t⟩)) : Calls P f args w fun x w' => x = .returned (.tuple #[.agg #[.int .i64 first, .string t], .agg #[.int .i64 no, .int .i64 r, .int .i64 at_]]) ∧ Below w.heap.size w w' := h.mono fun _ _ h => ⟨h.1, h.2⟩
theorem frR_eq (V : EV) (first : Int) (e : Er) {t : ByteArray} (ht : t = ⟨V.L.toArray⟩) : frR V first e = if V.no = 0 then if e.no = 0 then ⟨e00, first, t⟩ else ⟨e, 0, ⟨#[]⟩⟩ else ⟨⟨V.no, 129, V.at_⟩, 0, ⟨#[]⟩⟩ := by rw [ht]; rfl
end Go.Proofs.YtfkimpcaokgldaaGreatDoor
