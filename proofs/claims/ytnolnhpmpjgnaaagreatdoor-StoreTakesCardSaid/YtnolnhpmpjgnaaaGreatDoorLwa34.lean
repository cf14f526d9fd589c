/- What is proved here: what any bytes tell as a record is the document's (StoreTakes' walk). Conditions: what the rows list of the package's variables. -/
import Derived.Test.YtnolnhpmpjgnaaaGreatDoorAwk34
import Derived.Test.YtnolnhpmpjgnaaaGreatDoorSmo34
import Derived.Test.YtnolnhpmpjgnaaaGreatDoorSme34
import Derived.Test.YtnolnhpmpjgnaaaGreatDoorRtk34
namespace Go.Proofs.YtnolnhpmpjgnaaaGreatDoor
set_option maxRecDepth 100000
open Go.RowKit Go.Extern.Stop Go.Stop Go.Extern
theorem tk_props (s : ByteArray) : (tkF s).o.m.props.length ≤ s.size + 1 := by
  by_cases h : (tkF s).no = 0
  · exact (tk_small h).2.2.2
  · have e : (tkF s).o = oo0 := tk_bad h
    rw [e]
    exact Nat.zero_le _
theorem ov_cells (o : OV) (A : Option Addr) (c : Nat) : ∃ C : Array Value, o.agg A c = .agg C ∧ C.size = 12 ∧ C.toList.all (·.oneCell') = true := ⟨_, rfl, rfl, by simp [Value.oneCell']⟩
set_option maxHeartbeats 8000000 in
theorem storeTakes_walk (S : Nat → Addr) (a : ByteArray) (w : World) (h : EnvN w S) (wa : a.size ≤ maxLen) : Calls Tryz.prog 3 #[.string a] w fun x w' => x = .returned (.bool true) ∧ Below w.heap.size w w' := by
  unfold maxLen at wa
  have HE := Lib.hid h
  have HO := Lib.hid (Own.start [] w)
  clear h
  by_cases ha : 2048 < a.size
  · have HA := Lib.hid (awake34 HE.out.env)
    go_enter Tryz.func3, Tryz.ntmps3
    go_wp2_with fail
    refine HA.out.mono ?_
    rintro x w1 ⟨rfl, hb⟩
    have HX := Lib.hid hb
    clear hb HA
    go_wp2_with fail
    go_ret
    exact ⟨rfl, HX.out⟩
  · have hl : a.size ≤ 2048 := by omega
    have HT := Lib.hid (take34_any HE.out.env (show a.size ≤ 900000 by omega))
    have HR := Lib.hid (fun W : World => rtake34_any (w := W) (show a.size ≤ 900000 by omega))
    have HPL := Lib.hid (tk_props a)
    have HL := Lib.hid hl
    generalize tkF a = T at HT HR HPL
    obtain ⟨no, r, at_, o⟩ := T
    simp only at HPL
    go_enter Tryz.func3, Tryz.ntmps3
    go_wp2_with fail
    refine HT.out.mono ?_
    rintro x W1 ⟨A1, c1, e, rfl, hP, hcap, he, hb⟩
    have HSO := Lib.hid (fun (W : World) (A2 : Option Addr) (c2 : Nat) (h1 : PIn W 0 A1 o.m.props) (h2 : PIn W 0 A2 o.m.props) => rsame34 o A1 A2 c1 c2 h1 h2 (by have := HPL.out; have := HL.out; omega))
    obtain ⟨C1, hC1, z1, n1⟩ := ov_cells o A1 c1
    rw [hC1] at HSO ⊢
    have HB := Lib.hid hb
    have HP := Lib.hid hP
    have HER := Lib.hid he
    have HZ1 := Lib.hid z1
    have HN1 := Lib.hid n1
    clear HO HT hb hcap hP he hC1 z1 n1
    have HO := Lib.hid (Own.start [] W1)
    go_upto_region 4 with (first
      | (refine wpo_alloc tyO HO.out rfl rfl ?_; clear HO; rintro k3 W2 hO; have HO := Lib.hid hO; clear hO; simp only [Act.put, List.setIfInBounds_toArray, List.set_cons_zero, List.set_cons_succ])
      | (refine wpo_store (k := k3) HO.out 0 tyO rfl _ _ rfl rfl rfl rfl rfl HZ1.out HN1.out ?_; clear HO; rintro W3 hO; have HO := Lib.hid hO; clear hO; simp only [Act.put]))
    go_wp2_with fail
    refine (HR.out _).mono ?_
    rintro x W4 ⟨A2, c2, rfl, hP2, hcap2, hb4⟩
    have hb14 := HO.out.bel.trans (hb4.mono HO.out.bel.size)
    have hB3 := (HO.out.get 0 rfl).below hb4 (HO.out.get 0 rfl).lt
    have hP1 := HP.out.below hb14
    have he4 := HER.out.later hb14
    have hbw := HB.out.trans (hb14.mono HB.out.size)
    have hso := HSO.out
    obtain ⟨C2, hC2, z2, n2⟩ := ov_cells o A2 c2
    have HS2 := Lib.hid (fun (W : World) (h1 : PIn W 0 A1 o.m.props) (h2 : PIn W 0 A2 o.m.props) => hC2 ▸ HSO.out W A2 c2 h1 h2)
    rw [hC2]
    clear HO HP HER HB HR HSO hso hcap2 hb4 hb14 hC2
    have HB := Lib.hid hbw
    have HB3 := Lib.hid hB3
    have HP1 := Lib.hid hP1
    have HP2 := Lib.hid hP2
    have HER := Lib.hid he4
    have HZ2 := Lib.hid z2
    have HN2 := Lib.hid n2
    clear hbw hB3 hP1 hP2 he4 z2 n2
    have HO := Lib.hid (Own.start [] W4)
    go_upto_region 5 with (first
      | (refine wpo_alloc tyO HO.out rfl rfl ?_; clear HO; rintro k5 W5 hO; have HO := Lib.hid hO; clear hO; simp only [Act.put, List.setIfInBounds_toArray, List.set_cons_zero, List.set_cons_succ])
      | (refine wpo_alloc tyX HO.out rfl rfl ?_; clear HO; rintro k6 W6 hO; have HO := Lib.hid hO; clear hO; simp only [Act.put, List.setIfInBounds_toArray, List.set_cons_zero, List.set_cons_succ])
      | (refine wpo_store (k := k5) HO.out 1 tyO rfl _ _ rfl rfl rfl rfl rfl HZ2.out HN2.out ?_; clear HO; rintro W7 hO; have HO := Lib.hid hO; clear hO; simp only [Act.put])
      | (refine wpo_store (k := k6) HO.out 0 tyX rfl _ _ rfl rfl rfl rfl rfl rfl rfl ?_; clear HO; rintro W8 hO; have HO := Lib.hid hO; clear hO; simp only [Act.put]))
    have HB38 := Lib.hid (HB3.out.below HO.out.bel HB3.out.lt)
    go_wp2_with (first
      | (refine wpo_ldm tyO HB38.out 0 HZ1.out (fun j _ => by rw [Nat.zero_add]) _ rfl rfl rfl ?_)
      | (refine wpo_load HO.out 1 tyO rfl HZ2.out _ rfl rfl rfl ?_))
    refine (HS2.out _ (HP1.out.below HO.out.bel) (HP2.out.below HO.out.bel)).mono ?_
    rintro x W9 ⟨rfl, hb⟩
    have hO := HO.out.below hb
    clear HO HB3 HB38 HS2 HP1 HP2 HZ1 HN1 HZ2 HN2 hb
    have HO := Lib.hid hO
    clear hO
    have q0 : W9.cell? ⟨k6, 0, none⟩ = some (.int .i64 (no : Int)) := (HO.out.get 0 rfl).cell 0
    have q1 : W9.cell? ⟨k6, 1, none⟩ = some (.int .i64 r) := (HO.out.get 0 rfl).cell 1
    have q2 : W9.cell? ⟨k6, 2, none⟩ = some (.int .i64 (at_ : Int)) := (HO.out.get 0 rfl).cell 2
    have hbw := HB.out.trans (HO.out.bel.mono HB.out.size)
    have HSM := Lib.hid (same34E S no at_ r e W9 (HE.out.later hbw) (HER.out.later HO.out.bel))
    go_wp2_with fail
    refine HSM.out.mono ?_
    rintro x W10 ⟨rfl, hb⟩
    have hbw2 := hbw.trans (hb.mono hbw.size)
    have HA := Lib.hid (awake34 (HE.out.later hbw2).env)
    have HB2 := Lib.hid hbw2
    clear q0 q1 q2 hbw hb HSM HO HB HER hbw2
    go_wp2_with fail
    refine HA.out.mono ?_
    rintro x W11 ⟨rfl, hb⟩
    have HB3 := Lib.hid (HB2.out.trans (hb.mono HB2.out.size))
    clear hb HA HB2
    go_wp2_with fail
    go_ret
    exact ⟨rfl, HB3.out⟩
end Go.Proofs.YtnolnhpmpjgnaaaGreatDoor
