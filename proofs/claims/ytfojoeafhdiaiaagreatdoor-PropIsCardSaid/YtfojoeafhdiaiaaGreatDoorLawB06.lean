/- What is proved here: PropIs answers true for every number, place and properties. Condition: what the rows list of the package's variables. -/
import Derived.Test.YtfojoeafhdiaiaaGreatDoorRef06
import Derived.Test.YtfojoeafhdiaiaaGreatDoorLawA06
namespace Go.Proofs.YtfojoeafhdiaiaaGreatDoor
set_option maxRecDepth 100000
open Go.RowKit Go.Extern.Stop Go.Stop Go.Extern
section
variable {w W : World} {S : Nat → Addr} {A : Option Addr} {L : PL}
set_option maxHeartbeats 4000000 in
theorem propIs_walk (S : Nat → Addr) (i place : Int) (A : Option Addr) (n c : Nat) (L : PL) (w : World) (hE : Env w S) (_hi : (Lit.int .i64 i).wf = true) (_hpl : (Lit.int .i64 place).wf = true) (hm : n ≤ maxLen) (h : PArg w A n c L) :
    Calls Tryz.prog 3 #[.int .i64 i, .int .i64 place, .slice A n c] w fun x w' => x = .returned (.bool true) ∧ Below w.heap.size w w' := by
  have hm' : n ≤ 9223372036854775807 := by unfold maxLen at hm; omega
  have HFW := Lib.hid (few06_any n c h.rd h.len hm')
  have HE := Lib.hid hE
  have HA := Lib.hid h
  clear hE hm h
  go_enter Tryz.func3, Tryz.ntmps3
  go_wp2_with fail
  refine HFW.out.mono ?_
  rintro x w0 ⟨⟨b, rfl, hb⟩, rfl⟩
  clear HFW
  cases b with
  | false =>
    clear hb
    go_wp2_with fail
    refine (awake06 HE.out).mono ?_
    rintro x w2 ⟨rfl, hb⟩
    go_wp2
    go_ret
    exact ⟨rfl, hb⟩
  | true =>
    obtain ⟨hn70, _⟩ := hb rfl
    clear hb
    have HG := Lib.hid (fun (W : World) (h : PIn W w.heap.size A L) => show Calls Tryz.prog 7 #[.slice A n c, .int .i64 i] W (GetSays W (getV L i)) from get_any i n c HA.out.len h (by omega))
    have HRG := Lib.hid (fun (W : World) (h : PIn W w.heap.size A L) => show Calls Tryz.prog 8 #[.slice A n c, .int .i64 i] W (GetSays W (getV L i)) from rget_any i n c HA.out.len h (by omega))
    have HNU := Lib.hid (fun (W : World) (h : PIn W w.heap.size A L) => show Calls Tryz.prog 13 #[.slice A n c, .int .i64 i, .int .i64 place] W _ from number_any i place n c HA.out.len h (by omega))
    have HRN := Lib.hid (fun (W : World) (h : PIn W w.heap.size A L) => show Calls Tryz.prog 14 #[.slice A n c, .int .i64 i, .int .i64 place] W _ from rnum06_any i place n c HA.out.len h (by omega))
    obtain ⟨nu, hnu⟩ : ∃ nu, nu = (if (getV L i).2 = true then (getV L i).1.n else place) := ⟨_, rfl⟩
    rw [← hnu] at HNU HRN
    clear hnu
    obtain ⟨⟨⟨pi, pn, ps, pv⟩, gb⟩, hg⟩ : ∃ q, q = getV L i := ⟨_, rfl⟩
    rw [← hg] at HG HRG
    clear hg
    obtain ⟨t, ht⟩ : ∃ t, t = typeI i := ⟨_, rfl⟩
    have HTY := Lib.hid (fun W : World => ptype_any i W)
    have HRT := Lib.hid (fun W : World => rtype06_any i W)
    rw [← ht] at HTY HRT
    clear ht
    obtain ⟨al, hal⟩ : ∃ al, al = allowI i place := ⟨_, rfl⟩
    have HAL := Lib.hid (fun W : World => allowed_any i place W)
    have HRA := Lib.hid (fun W : World => rallowed_any i place W)
    rw [← hal] at HAL HRA
    clear hal
    go_wp2_with fail
    refine (HG.out w HA.out.rd).mono ?_
    rintro x w1 ⟨rfl, hb1⟩
    rw [show PV.agg (((⟨pi, pn, ps, pv⟩, gb) : PV × Bool).1) = .agg #[.int .i64 pi, .int .i64 pn, .string ps, .string pv] from rfl]
    have hi1 : PbIn w w1 A L := ⟨hb1, HA.out.rd.below hb1⟩
    have hb2 : Below w1.heap.size w1 (w1.alloc (.cells #[.int .i64 pi, .int .i64 pn, .string ps, .string pv] 26)) := (Below.refl _ _).alloc (Nat.le_refl _) _
    have HI2 := Lib.hid (hi1.below hb2)
    have HX2 := Lib.hid (Blk.made w1 26 #[.int .i64 pi, .int .i64 pn, .string ps, .string pv])
    clear hb1 hi1 hb2
    simp only
    go_wp2_with fail
    refine (HRG.out _ HI2.out.rd).mono ?_
    rintro x w3 ⟨rfl, hb3⟩
    rw [show PV.agg (((⟨pi, pn, ps, pv⟩, gb) : PV × Bool).1) = .agg #[.int .i64 pi, .int .i64 pn, .string ps, .string pv] from rfl]
    have hb4 : Below w3.heap.size w3 (w3.alloc (.cells #[.int .i64 pi, .int .i64 pn, .string ps, .string pv] 26)) := (Below.refl _ _).alloc (Nat.le_refl _) _
    have HI4 := Lib.hid ((HI2.out.below hb3).below hb4)
    have HX4 := Lib.hid ((HX2.out.below hb3 HX2.out.lt).below hb4 (HX2.out.below hb3 HX2.out.lt).lt)
    have HY4 := Lib.hid (Blk.made w3 26 #[.int .i64 pi, .int .i64 pn, .string ps, .string pv])
    clear hb3 hb4 HI2 HX2
    simp only
    go_wp2_with fail
    refine (HTY.out _).mono ?_
    rintro x w5 ⟨rfl, rfl⟩
    go_wp2_with fail
    refine (HRT.out _).mono ?_
    rintro x w5 ⟨rfl, rfl⟩
    go_wp2_with fail
    refine (HAL.out _).mono ?_
    rintro x w5 ⟨rfl, hb5⟩
    go_wp2_with fail
    refine (HRA.out _).mono ?_
    rintro x w6 ⟨rfl, hb6⟩
    have HI6 := Lib.hid ((HI4.out.below hb5).below hb6)
    have hx6 := (HX4.out.below hb5 HX4.out.lt).below hb6 (HX4.out.below hb5 HX4.out.lt).lt
    have hy6 := (HY4.out.below hb5 HY4.out.lt).below hb6 (HY4.out.below hb5 HY4.out.lt).lt
    have x0 := hx6.cell 0
    have x1 := hx6.cell 1
    have x2 := hx6.cell 2
    have x3 := hx6.cell 3
    have y0 := hy6.cell 0
    have y1 := hy6.cell 1
    have y2 := hy6.cell 2
    have y3 := hy6.cell 3
    clear hb5 hb6 hx6 hy6 HI4 HX4 HY4
    go_wp2_with fail
    refine (HNU.out _ HI6.out.rd).mono ?_
    rintro x w7 ⟨rfl, hb7⟩
    have HI7 := Lib.hid (HI6.out.below hb7)
    clear hb7 HI6 x0 x1 x2 x3 y0 y1 y2 y3
    go_wp2_with fail
    refine (HRN.out _ HI7.out.rd).mono ?_
    rintro x w8 ⟨rfl, hb8⟩
    have HI8 := Lib.hid (HI7.out.below hb8)
    have HWO := Lib.hid (without_any i n c HA.out.len HI8.out.rd (by omega))
    clear hb8 HI7
    go_wp2_with fail
    refine HWO.out.mono ?_
    rintro x w9 ⟨a9, n9, c9, rfl, hn9, hr9, hb9⟩
    have HI9 := Lib.hid (HI8.out.below hb9)
    have HR9 := Lib.hid hr9
    have HN9 := Lib.hid hn9
    have HRW := Lib.hid (rwithout_any i n c HA.out.len HI9.out.rd (by omega))
    clear hb9 hr9 hn9 HWO HI8
    go_wp2_with fail
    refine HRW.out.mono ?_
    rintro x w10 ⟨a10, n10, c10, rfl, hn10, hr10, hb10⟩
    obtain rfl : n9 = n10 := HN9.out.trans hn10.symm
    have HI10 := Lib.hid (HI9.out.below hb10)
    have hwl : (woL L i).length ≤ 1000 := by
      have h1 := List.length_filter_le (fun p : PV => !(p.id == i)) L
      have := HA.out.len
      unfold woL
      omega
    have HSM := Lib.hid (psame_any (L := woL L i) ((HR9.out.below hb10).pin (B' := 0)) (hr10.pin (B' := 0)) n9 c9 c10 hn10 (by omega))
    clear hb10 hr10 hn10 HRW HI9 hwl
    go_wp2_with fail
    refine HSM.out.mono ?_
    rintro x w11 ⟨rfl, d, rfl⟩
    have HI11 := Lib.hid (HI10.out.below (below_drewN (Below.refl w10.heap.size w10) d))
    clear HSM HI10
    go_wp2_with fail
    refine (awake06 (HE.out.later HI11.out.bel)).mono ?_
    rintro x w12 ⟨rfl, hb12⟩
    have HB12 := Lib.hid (HI11.out.bel.trans (hb12.mono HI11.out.bel.size))
    clear hb12
    go_wp2_with fail
    go_ret
    exact ⟨rfl, HB12.out⟩
end
end Go.Proofs.YtfojoeafhdiaiaaGreatDoor
