/- What is proved here: ConnectEncodes answers true for every packet. Condition: what the rows list of the package's variables. -/
import Derived.Test.YtfkimpcaokgldaaGreatDoorRee8a
import Derived.Test.YtfkimpcaokgldaaGreatDoorReg8a
import Derived.Test.YtfkimpcaokgldaaGreatDoorReg8b
import Derived.Test.YtfkimpcaokgldaaGreatDoorAwl08
namespace Go.Proofs.YtfkimpcaokgldaaGreatDoor
set_option maxRecDepth 100000
open Go.RowKit Go.Extern.Stop Go.Stop Go.Extern
theorem smK_of {p : Pk} (h : FewK p) : SmK p := ⟨smallP_of h.pr.1 fun k hk => ⟨by have := (h.pr.2 k hk).1; omega, by have := (h.pr.2 k hk).2; omega⟩, smallP_of h.wr.1 fun k hk => ⟨by have := (h.wr.2 k hk).1; omega, by have := (h.wr.2 k hk).2; omega⟩, by have := h.ct; omega, by have := h.wt; omega, by have := h.wp; omega, by have := h.us; omega, by have := h.ps; omega⟩
theorem renc08 {w : World} {A : PkA} {p : Pk} (h : PkIn w w.heap.size A p) (hS : SmK p) : Calls Tryz.prog 8 #[p.agg A] w (FrF w (enK p)) := by
  rcases hw : p.wHas with _ | _
  · by_cases hn1 : (encR 1 p.props).no = 0
    · exact renc08_g0 h hS hw rfl rfl hn1
    · exact renc08_p0 h hS hw hn1
  · by_cases hb : p.wQos < 0 ∨ 3 < p.wQos
    · exact renc08_bad h hS hw hb
    · have hq0 : ¬ p.wQos < 0 := fun hh => hb (.inl hh)
      have hq3 : ¬ 3 < p.wQos := fun hh => hb (.inr hh)
      by_cases hn1 : (encR 1 p.props).no = 0
      · by_cases hn2 : (encR 16 p.wProps).no = 0
        · exact renc08_g1 h hS hw rfl rfl hq0 hq3 hn1 hn2
        · exact renc08_w h hS hw hq0 hq3 hn1 hn2
      · exact renc08_p1 h hS hw hq0 hq3 hn1

set_option maxHeartbeats 8000000 in
theorem connectEncodes_walk (S : Nat → Addr) (p : Pk) (A : PkA) (w : World) (hE : EnvN w S) (h : PkArg w A p) :
    Calls Tryz.prog 3 #[p.agg A] w fun x w' => x = .returned (.bool true) ∧ Below w.heap.size w w' := by
  obtain ⟨z, hT, hz26, hz⟩ := tyP_ex
  obtain ⟨c, hc⟩ : ∃ c, c = p.cells A := ⟨_, rfl⟩
  rw [show p.agg A = .agg c from by rw [hc]; rfl]
  have HC := Lib.hid hc
  have HCS := Lib.hid (show c.size = z.size by rw [hc, hz26]; rfl)
  have HC26 := Lib.hid (show c.size = 26 by rw [hc]; rfl)
  have HT := Lib.hid hT
  have HE := Lib.hid hE
  have HA := Lib.hid h
  have HO := Lib.hid (Own.start [] w)
  clear hT hz26 hz hc h hE
  go_enter Tryz.func3, Tryz.ntmps3
  go_wp2_with (first | (refine wpo_box (t := 29) HO.out _ rfl rfl rfl ?_; clear HO; rintro k1 W1 hO; have HO := Lib.hid hO; clear hO; simp only [Act.put, List.setIfInBounds_toArray, List.set_cons_zero, List.set_cons_succ]) | (refine wpo_load HO.out 0 HT.out rfl HCS.out _ rfl rfl rfl ?_))
  have HFW := Lib.hid (few08 (w := W1) (A := A) (p := p) ⟨(HA.out.inn.below HO.out.bel).mono HO.out.size, HA.out.pl, HA.out.wl, HA.out.sl, HA.out.fl, HA.out.cl⟩)
  rw [show p.agg A = .agg c from by rw [HC.out]; rfl] at HFW
  refine HFW.out.mono ?_
  rintro x V1 ⟨b, rfl, hfk, hb⟩
  have HB := Lib.hid (HO.out.below hb)
  clear HO hb HFW
  have HO := HB
  clear HB
  cases b with
  | false =>
    clear hfk
    go_wp2_with fail
    refine (awake08 (HE.out.env.later HO.out.bel)).mono ?_
    rintro x V2 ⟨rfl, hb⟩
    have HB := Lib.hid (HO.out.below hb)
    clear HO hb
    have HO := HB
    clear HB
    go_wp2_with fail
    go_ret
    exact ⟨rfl, HO.out.bel⟩
  | true =>
    have HK := Lib.hid (hfk rfl)
    clear hfk
    have HSM := Lib.hid (smK_of HK.out)
    have hen := enc08 (p := p) (A := A) (HE.out.env.later HO.out.bel) ((HA.out.inn.below HO.out.bel).mono HO.out.size) HSM.out
    rw [show p.agg A = .agg c from by rw [HC.out]; rfl] at hen
    have HEN := Lib.hid hen
    have HRN := Lib.hid (fun W (hb : Below w.heap.size w W) => renc08 (w := W) (p := p) (A := A) ((HA.out.inn.below hb).mono hb.size) HSM.out)
    rw [show p.agg A = .agg c from by rw [HC.out]; rfl] at HRN
    obtain ⟨⟨⟨en, er, ea⟩, f1, fs⟩, hf⟩ : ∃ f, f = enK p := ⟨_, rfl⟩
    rw [← hf] at HEN HRN
    clear hen hf
    go_wp2_with (refine wpo_load HO.out 0 HT.out rfl HCS.out _ rfl rfl rfl ?_)
    refine HEN.out.mono ?_
    rintro x V3 ⟨e3, rfl, he3, hb⟩
    have HB3 := Lib.hid (HO.out.below hb)
    have HK1 := Lib.hid (HB3.out.get 0 rfl)
    have HBW := Lib.hid HB3.out.bel
    have HER := Lib.hid he3
    clear HO HB3 hb he3 HEN
    have HO := Lib.hid (Own.start [] V3)
    simp only at HER
    go_upto_region 4 with (first | (refine wpo_alloc tyF HO.out rfl rfl ?_; clear HO; rintro k3 W4 hO; have HO := Lib.hid hO; clear hO; simp only [Act.put, List.setIfInBounds_toArray, List.set_cons_zero, List.set_cons_succ]) | (refine wpo_store (k := k3) HO.out 0 tyF rfl _ _ rfl rfl rfl rfl rfl rfl rfl ?_; clear HO; rintro W5 hO; have HO := Lib.hid hO; clear hO; simp only [Act.put]))
    have HRN2 := Lib.hid (HRN.out W5 (HBW.out.trans (HO.out.bel.mono HBW.out.size)))
    clear HRN
    go_wp2_with (refine wpk_load (HO.out.eld HK1.out List.not_mem_nil) HC26.out _ rfl rfl rfl ?_)
    refine HRN2.out.mono ?_
    rintro x V6 ⟨rfl, hb⟩
    have HB := Lib.hid (HO.out.below hb)
    clear HO hb HRN2
    have HO := HB
    clear HB
    simp only [fltV]
    go_upto_region 5 with (first | (refine wpo_alloc tyF HO.out rfl rfl ?_; clear HO; rintro k5 W7 hO; have HO := Lib.hid hO; clear hO; simp only [Act.put, List.setIfInBounds_toArray, List.set_cons_zero, List.set_cons_succ]) | (refine wpo_alloc tyX HO.out rfl rfl ?_; clear HO; rintro k6 W8 hO; have HO := Lib.hid hO; clear hO; simp only [Act.put, List.setIfInBounds_toArray, List.set_cons_zero, List.set_cons_succ]) | (refine wpo_store (k := k5) HO.out 1 tyF rfl _ _ rfl rfl rfl rfl rfl rfl rfl ?_; clear HO; rintro W9 hO; have HO := Lib.hid hO; clear hO; simp only [Act.put]) | (refine wpo_store (k := k6) HO.out 0 tyX rfl _ _ rfl rfl rfl rfl rfl rfl rfl ?_; clear HO; rintro W10 hO; have HO := Lib.hid hO; clear hO; simp only [Act.put]))
    have x0 : W10.cell? ⟨k6, 0, none⟩ = some (.int .i64 (en : Int)) := (HO.out.get 0 rfl).cell 0
    have x1 : W10.cell? ⟨k6, 1, none⟩ = some (.int .i64 er) := (HO.out.get 0 rfl).cell 1
    have x2 : W10.cell? ⟨k6, 2, none⟩ = some (.int .i64 (ea : Int)) := (HO.out.get 0 rfl).cell 2
    have HSA := Lib.hid (same08E S en ea er e3 W10 ((HE.out.later HBW.out).later HO.out.bel) (HER.out.later HO.out.bel))
    go_wp2_with (first | (refine wpo_load HO.out 1 tyF rfl rfl _ rfl rfl rfl ?_) | (refine wpo_load HO.out 2 tyF rfl rfl _ rfl rfl rfl ?_))
    refine HSA.out.mono ?_
    rintro x V11 ⟨rfl, hb⟩
    clear x0 x1 x2
    have HB := Lib.hid (HO.out.below hb)
    clear HO hb HSA
    have HO := HB
    clear HB
    go_wp2_with fail
    refine (awake08 (HE.out.env.later (HBW.out.trans (HO.out.bel.mono HBW.out.size)))).mono ?_
    rintro x V12 ⟨rfl, hb⟩
    have HB := Lib.hid (HO.out.below hb)
    clear HO hb
    have HO := HB
    clear HB
    go_wp2_with fail
    go_ret
    exact ⟨rfl, HBW.out.trans (HO.out.bel.mono HBW.out.size)⟩
end Go.Proofs.YtfkimpcaokgldaaGreatDoor
