/- What is proved here: SubscribeEncodes answers true for every packet. Condition: what the rows list of the package's variables. -/
import Derived.Test.YtinhecggmakbnaaGreatDoorRec12
import Derived.Test.YtinhecggmakbnaaGreatDoorRed12
import Derived.Test.YtinhecggmakbnaaGreatDoorAwl12
import Derived.Test.YtinhecggmakbnaaGreatDoorSme12
namespace Go.Proofs.YtinhecggmakbnaaGreatDoor
set_option maxRecDepth 100000
open Go.RowKit Go.Extern.Stop Go.Stop Go.Extern
theorem smS_of {p : Pk} (h : FewK p) : SmS p := ⟨smallP_of h.pr.1 fun k hk => ⟨by have := (h.pr.2 k hk).1; omega, by have := (h.pr.2 k hk).2; omega⟩, h.sb, h.cd, fun x hx => by
  obtain ⟨k, hk, rfl⟩ := List.mem_iff_getElem.1 hx
  have := h.sz k hk
  rw [List.getD_eq_getElem?_getD, List.getElem?_eq_getElem hk] at this
  exact Nat.le_trans this (by decide)⟩
set_option maxHeartbeats 4000000 in
theorem renc12_other {w : World} {A : PkA} {p : Pk} (h1 : ¬ p.kind = 8) (h2 : ¬ p.kind = 9) : Calls Tryz.prog 25 #[p.agg A] w (FrF w (enS p)) := by
  obtain ⟨z, hT, hz26, hz⟩ := tyP_ex
  obtain ⟨q, hq⟩ : ∃ q, q = enS p := ⟨_, rfl⟩
  rw [← hq]
  obtain ⟨c, hc⟩ : ∃ c, c = p.cells A := ⟨_, rfl⟩
  rw [show p.agg A = .agg c from by rw [hc]; rfl]
  have HG0 := Lib.hid (show c[0]? = some (.int .i64 p.kind) by rw [hc]; rfl)
  unfold enS at hq
  rw [if_pos (by unfold fS; rw [if_neg h1, if_neg h2])] at hq
  have HQ2 := Lib.hid hq
  have HO := Lib.hid (Own.start [] w)
  have b1 : (p.kind == 8) = false := beq_eq_false_iff_ne.2 h1
  have b2 : (p.kind == 9) = false := beq_eq_false_iff_ne.2 h2
  generalize p.kind = kd at *
  clear hT hz26 hz hc hq h1 h2
  go_enter Tryz.func25, Tryz.ntmps25
  go_wp2_with (first | (refine wpo_box (t := 29) HO.out _ rfl rfl rfl ?_; clear HO; rintro k1 W1 hO; have HO := Lib.hid hO; clear hO; simp only [Act.put, List.setIfInBounds_toArray, List.set_cons_zero, List.set_cons_succ]) | (refine wpo_alloc tyF HO.out rfl rfl ?_; clear HO; rintro k2 W2 hO; have HO := Lib.hid hO; clear hO; simp only [Act.put, List.setIfInBounds_toArray, List.set_cons_zero, List.set_cons_succ]) | (refine wpo_alloc tyX HO.out rfl rfl ?_; clear HO; rintro k3 W3 hO; have HO := Lib.hid hO; clear hO; simp only [Act.put, List.setIfInBounds_toArray, List.set_cons_zero, List.set_cons_succ]) | (refine wpo_ldc (HO.out.get 2 rfl) tyI _ rfl rfl rfl HG0.out ?_) | (refine wpo_zero tyF rfl rfl ?_) | (refine wpo_store (k := k2) HO.out 1 tyF rfl _ _ rfl rfl rfl rfl rfl rfl rfl ?_; clear HO; rintro W4 hO; have HO := Lib.hid hO; clear hO; simp only [Act.put]) | (refine wpo_store (k := k3) HO.out 0 tyX rfl _ _ rfl rfl rfl rfl rfl rfl rfl ?_; clear HO; rintro W5 hO; have HO := Lib.hid hO; clear hO; simp only [Act.put]))
  exact bodyPost_ret (v := .tuple #[.agg #[.int .i64 0, .string ⟨#[]⟩], fltV (7, 128, 0)]) (res_own2 1 0 HO.out tyF tyX rfl rfl rfl rfl rfl rfl rfl) rfl ⟨by rw [HQ2.out] <;> rfl, HO.out.bel⟩
theorem renc12 {w : World} {A : PkA} {p : Pk} (h : PkIn w w.heap.size A p) (hS : SmS p) : Calls Tryz.prog 25 #[p.agg A] w (FrF w (enS p)) := by
  by_cases h1 : p.kind = 8
  · by_cases hz : p.codes.length = 0
    · exact renc12_8e h hS h1 hz
    · exact renc12_8f h hS h1 (by omega)
  · by_cases h2 : p.kind = 9
    · by_cases hz : p.subs.length = 0
      · exact renc12_9e h hS h2 hz
      · exact renc12_9f h hS h2 (by omega)
    · exact renc12_other h1 h2

set_option maxHeartbeats 8000000 in
theorem subscribeEncodes_walk (S : Nat → Addr) (p : Pk) (A : PkA) (w : World) (hE : EnvN w S) (h : PkArg w A p) :
    Calls Tryz.prog 6 #[p.agg A] w fun x w' => x = .returned (.bool true) ∧ Below w.heap.size w w' := by
  obtain ⟨z, hT, hz26, hz⟩ := tyP_ex
  obtain ⟨c, hc⟩ : ∃ c, c = p.cells A := ⟨_, rfl⟩
  rw [show p.agg A = .agg c from by rw [hc]; rfl]
  have HC := Lib.hid hc
  have HCS := Lib.hid (show c.size = z.size by rw [hc, hz26]; rfl)
  have HC26 := Lib.hid (show c.size = 26 by rw [hc]; rfl)
  have HT := Lib.hid hT
  have HE := Lib.hid hE
  have HA := Lib.hid h
  have HO := Lib.hid (Own.start [] w)
  clear hT hz26 hz hc h hE
  go_enter Tryz.func6, Tryz.ntmps6
  go_wp2_with (first | (refine wpo_box (t := 29) HO.out _ rfl rfl rfl ?_; clear HO; rintro k1 W1 hO; have HO := Lib.hid hO; clear hO; simp only [Act.put, List.setIfInBounds_toArray, List.set_cons_zero, List.set_cons_succ]) | (refine wpo_load HO.out 0 HT.out rfl HCS.out _ rfl rfl rfl ?_))
  have HFW := Lib.hid (few08 (w := W1) (A := A) (p := p) ⟨(HA.out.inn.below HO.out.bel).mono HO.out.size, HA.out.pl, HA.out.wl, HA.out.sl, HA.out.fl, HA.out.cl⟩)
  rw [show p.agg A = .agg c from by rw [HC.out]; rfl] at HFW
  refine HFW.out.mono ?_
  rintro x V1 ⟨b, rfl, hfk, hb⟩
  have HB := Lib.hid (HO.out.below hb)
  clear HO hb HFW
  have HO := HB
  clear HB
  cases b with
  | false =>
    clear hfk
    go_wp2_with fail
    refine (awake12 (HE.out.env.later HO.out.bel)).mono ?_
    rintro x V2 ⟨rfl, hb⟩
    have HB := Lib.hid (HO.out.below hb)
    clear HO hb
    have HO := HB
    clear HB
    go_wp2_with fail
    go_ret
    exact ⟨rfl, HO.out.bel⟩
  | true =>
    have HK := Lib.hid (hfk rfl)
    clear hfk
    have HSM := Lib.hid (smS_of HK.out)
    have hen := enc12 (p := p) (A := A) (HE.out.env.later HO.out.bel) ((HA.out.inn.below HO.out.bel).mono HO.out.size) HSM.out
    rw [show p.agg A = .agg c from by rw [HC.out]; rfl] at hen
    have HEN := Lib.hid hen
    have HRN := Lib.hid (fun W (hb : Below w.heap.size w W) => renc12 (w := W) (p := p) (A := A) ((HA.out.inn.below hb).mono hb.size) HSM.out)
    rw [show p.agg A = .agg c from by rw [HC.out]; rfl] at HRN
    obtain ⟨⟨⟨en, er, ea⟩, f1, fs⟩, hf⟩ : ∃ f, f = enS p := ⟨_, rfl⟩
    rw [← hf] at HEN HRN
    clear hen hf
    go_wp2_with (refine wpo_load HO.out 0 HT.out rfl HCS.out _ rfl rfl rfl ?_)
    refine HEN.out.mono ?_
    rintro x V3 ⟨e3, rfl, he3, hb⟩
    have HB3 := Lib.hid (HO.out.below hb)
    have HK1 := Lib.hid (HB3.out.get 0 rfl)
    have HBW := Lib.hid HB3.out.bel
    have HER := Lib.hid he3
    clear HO HB3 hb he3 HEN
    have HO := Lib.hid (Own.start [] V3)
    simp only at HER
    go_upto_region 4 with (first | (refine wpo_alloc tyF HO.out rfl rfl ?_; clear HO; rintro k3 W4 hO; have HO := Lib.hid hO; clear hO; simp only [Act.put, List.setIfInBounds_toArray, List.set_cons_zero, List.set_cons_succ]) | (refine wpo_store (k := k3) HO.out 0 tyF rfl _ _ rfl rfl rfl rfl rfl rfl rfl ?_; clear HO; rintro W5 hO; have HO := Lib.hid hO; clear hO; simp only [Act.put]))
    have HRN2 := Lib.hid (HRN.out W5 (HBW.out.trans (HO.out.bel.mono HBW.out.size)))
    clear HRN
    go_wp2_with (refine wpk_load (HO.out.eld HK1.out List.not_mem_nil) HC26.out _ rfl rfl rfl ?_)
    refine HRN2.out.mono ?_
    rintro x V6 ⟨rfl, hb⟩
    have HB := Lib.hid (HO.out.below hb)
    clear HO hb HRN2
    have HO := HB
    clear HB
    simp only [fltV]
    go_upto_region 5 with (first | (refine wpo_alloc tyF HO.out rfl rfl ?_; clear HO; rintro k5 W7 hO; have HO := Lib.hid hO; clear hO; simp only [Act.put, List.setIfInBounds_toArray, List.set_cons_zero, List.set_cons_succ]) | (refine wpo_alloc tyX HO.out rfl rfl ?_; clear HO; rintro k6 W8 hO; have HO := Lib.hid hO; clear hO; simp only [Act.put, List.setIfInBounds_toArray, List.set_cons_zero, List.set_cons_succ]) | (refine wpo_store (k := k5) HO.out 1 tyF rfl _ _ rfl rfl rfl rfl rfl rfl rfl ?_; clear HO; rintro W9 hO; have HO := Lib.hid hO; clear hO; simp only [Act.put]) | (refine wpo_store (k := k6) HO.out 0 tyX rfl _ _ rfl rfl rfl rfl rfl rfl rfl ?_; clear HO; rintro W10 hO; have HO := Lib.hid hO; clear hO; simp only [Act.put]))
    have x0 : W10.cell? ⟨k6, 0, none⟩ = some (.int .i64 (en : Int)) := (HO.out.get 0 rfl).cell 0
    have x1 : W10.cell? ⟨k6, 1, none⟩ = some (.int .i64 er) := (HO.out.get 0 rfl).cell 1
    have x2 : W10.cell? ⟨k6, 2, none⟩ = some (.int .i64 (ea : Int)) := (HO.out.get 0 rfl).cell 2
    have HSA := Lib.hid (same12E S en ea er e3 W10 ((HE.out.later HBW.out).later HO.out.bel) (HER.out.later HO.out.bel))
    go_wp2_with (first | (refine wpo_load HO.out 1 tyF rfl rfl _ rfl rfl rfl ?_) | (refine wpo_load HO.out 2 tyF rfl rfl _ rfl rfl rfl ?_))
    refine HSA.out.mono ?_
    rintro x V11 ⟨rfl, hb⟩
    clear x0 x1 x2
    have HB := Lib.hid (HO.out.below hb)
    clear HO hb HSA
    have HO := HB
    clear HB
    go_wp2_with fail
    refine (awake12 (HE.out.env.later (HBW.out.trans (HO.out.bel.mono HBW.out.size)))).mono ?_
    rintro x V12 ⟨rfl, hb⟩
    have HB := Lib.hid (HO.out.below hb)
    clear HO hb
    have HO := HB
    clear HB
    go_wp2_with fail
    go_ret
    exact ⟨rfl, HBW.out.trans (HO.out.bel.mono HBW.out.size)⟩
end Go.Proofs.YtinhecggmakbnaaGreatDoor
