/- What is proved here: the document's Plain: properties with nothing but what their types have. Conditions: they stand where the slice says, few of them. What is proved here: the document's Bare of package misc. Conditions: the packet's parts stand where it says, few properties. What is proved here, on plain values: what package misc encodes is decoded as it was, with nothing of what its kind has not; and what is decoded is encoded, and decoded, as it was. Conditions: few bytes. -/
import Derived.Test.YtinhecggmakbnaaGreatDoorPut08
import Derived.Test.YtinhecggmakbnaaGreatDoorPkx08
import Derived.Test.YtinhecggmakbnaaGreatDoorEnm14
namespace Go.Proofs.YtinhecggmakbnaaGreatDoor
set_option maxRecDepth 100000
open Go.RowKit Go.Extern.Stop Go.Stop Go.Extern
theorem plL_take (L : PL) (k : Nat) (hk : k < L.length) : plL (L.take (k + 1)) = plL (L.take k) ++ [plV (L.getD k p0)] := by
  unfold plL
  rw [List.take_succ_eq_append_getElem hk, List.map_append, List.getD_eq_getElem?_getD, List.getElem?_eq_getElem hk]
  rfl
section
variable {w w' : World} {B : Nat} {A : Option Addr} {L : PL}
set_option maxHeartbeats 8000000 in
theorem rplain_any (n c : Nat) (hn : n = L.length) (h : PIn w B A L) (hm : n ≤ 1000) : Calls Tryz.prog 157 #[.slice A n c] w (WoSays w (plL L)) := by
  have HN := Lib.hid hn
  have HA := Lib.hid h
  have HI0 : Hid (WoIn w w B A L (.slice none 0 0) (plL (L.take 0))) := Lib.hid ⟨PRow.nil _ _, Below.refl _ _⟩
  clear hn h
  go_enter Tryz.func157, Tryz.ntmps157
  go_wp2_with fail
  go_loopw [3, 4] (fun u j wr => ∃ k : Nat, k ≤ n ∧ j = .int .i64 k ∧ Hid (WoIn w wr B A L u (plL (L.take k)))) (fun _ j _ => n - (intOf j).toNat)
  case atStart => exact ⟨0, by omega, rfl, HI0⟩
  case round =>
    obtain ⟨k, hk, rfl, HI⟩ := hrel
    obtain ⟨av, nv, cv, rfl, hnv, _⟩ := HI.out.row.some_form
    by_cases hlt : k < n
    · have hkL : k < L.length := by have := HN.out; omega
      obtain ⟨g, off, rfl, hc, _⟩ := HA.out (by omega)
      have hcc := hc k hkL
      have hcw := hcc.at (w' := wr) (HI.out.bel.block g (lt_of_cell hcc.c0))
      have hpl := plL_take L k hkL
      have hml : (plL (L.take k)).length ≤ 1000 := by
        rw [plL_len, List.length_take]
        omega
      have hglt := lt_of_cell hcw.c0
      generalize L.getD k p0 = p at *
      obtain ⟨pi, pn, ps, pv⟩ := p
      obtain ⟨c0, c1, c2, c3⟩ := hcw
      have hb1 : ∀ cs, Below wr.heap.size wr (wr.alloc (.cells cs 102)) := fun cs => (Below.refl _ _).alloc (Nat.le_refl _) _
      have hcell : ∀ (cs : Array Value) (o : Nat) (u : Value), wr.cell? ⟨g, o, none⟩ = some u → (wr.alloc (.cells cs 102)).cell? ⟨g, o, none⟩ = some u := fun cs o u hu => ((hb1 cs).cell (p := ⟨g, o, none⟩) hglt).trans hu
      have HI1 := Lib.hid (fun cs => HI.out.below (hb1 cs))
      have HTY := Lib.hid (fun W : World => rtype06_any pi W)
      have HCE := Lib.hid hcell
      have hty := plain_cases pi
      have hpv : plV ⟨pi, pn, ps, pv⟩ = if typeI pi = 9 then ⟨pi, 0, ps, pv⟩ else if typeI pi = 6 ∨ typeI pi = 7 then ⟨pi, 0, ps, ⟨#[]⟩⟩ else ⟨pi, pn, ⟨#[]⟩, ⟨#[]⟩⟩ := rfl
      rw [hpv] at hpl
      have hv := typeI_vals pi
      obtain ⟨t, ht⟩ : ∃ t, t = typeI pi := ⟨_, rfl⟩
      rw [← ht] at HTY hty hpl hv
      have HML := Lib.hid (show (plL (L.take k)).length ≤ 100000 from by omega)
      clear ht hpv hml hc hcc hcell hb1 HI0 hnv
      by_cases h9 : t = 9
      · rw [if_pos h9] at hpl
        subst h9
        have HPL := Lib.hid hpl
        have q0 := HCE.out #[.int .i64 pi, .int .i64 0, .string ⟨#[]⟩, .string ⟨#[]⟩] _ _ c0
        have q1 := HCE.out #[.int .i64 pi, .int .i64 0, .string ⟨#[]⟩, .string ⟨#[]⟩] _ _ c1
        have q2 := HCE.out #[.int .i64 pi, .int .i64 0, .string ⟨#[]⟩, .string ⟨#[]⟩] _ _ c2
        have q3 := HCE.out #[.int .i64 pi, .int .i64 0, .string ⟨#[]⟩, .string ⟨#[]⟩] _ _ c3
        have r3 := HCE.out #[.int .i64 pi, .int .i64 0, .string ps, .string ⟨#[]⟩] _ _ c3
        have HS1 := Lib.hid (HI1.out #[.int .i64 pi, .int .i64 0, .string ps, .string pv]).bel.size
        clear hpl hty hv
        go_wp2_with fail
        refine (HTY.out _).mono ?_
        rintro x w1 ⟨rfl, rfl⟩
        go_wp2_with (at_builtin; go_must (refine append_prop ⟨pi, 0, ps, pv⟩ rfl _ _ rfl (HI1.out #[.int .i64 pi, .int .i64 0, .string ps, .string pv]).row HS1.out rfl (wr.heap.size + 1) 1 rfl (by simp) HML.out ?_))
        intro v7 w7 hn7
        have HX := Lib.hid (show WoIn w w7 B (some ⟨g, off, none⟩) L v7 (plL (L.take (k + 1))) from by rw [HPL.out]; exact (HI1.out #[.int .i64 pi, .int .i64 0, .string ps, .string pv]).app hn7)
        clear hn7
        go_wp2_with fail
        go_roundw
        case rel => exact ⟨k + 1, by omega, by go_num, HX⟩
        case measure => simp [intOf]; omega
      · by_cases h6 : t = 6 ∨ t = 7
        · rw [if_neg h9, if_pos h6] at hpl
          rcases h6 with h6 | h6
          · subst h6
            have HPL := Lib.hid hpl
            have q0 := HCE.out #[.int .i64 pi, .int .i64 0, .string ⟨#[]⟩, .string ⟨#[]⟩] _ _ c0
            have q1 := HCE.out #[.int .i64 pi, .int .i64 0, .string ⟨#[]⟩, .string ⟨#[]⟩] _ _ c1
            have q2 := HCE.out #[.int .i64 pi, .int .i64 0, .string ⟨#[]⟩, .string ⟨#[]⟩] _ _ c2
            have q3 := HCE.out #[.int .i64 pi, .int .i64 0, .string ⟨#[]⟩, .string ⟨#[]⟩] _ _ c3
            have r3 := HCE.out #[.int .i64 pi, .int .i64 0, .string ps, .string ⟨#[]⟩] _ _ c3
            have HS1 := Lib.hid (HI1.out #[.int .i64 pi, .int .i64 0, .string ps, .string ⟨#[]⟩]).bel.size
            clear hpl hty hv
            go_wp2_with fail
            refine (HTY.out _).mono ?_
            rintro x w1 ⟨rfl, rfl⟩
            go_wp2_with (at_builtin; go_must (refine append_prop ⟨pi, 0, ps, ⟨#[]⟩⟩ rfl _ _ rfl (HI1.out #[.int .i64 pi, .int .i64 0, .string ps, .string ⟨#[]⟩]).row HS1.out rfl (wr.heap.size + 1) 1 rfl (by simp) HML.out ?_))
            intro v7 w7 hn7
            have HX := Lib.hid (show WoIn w w7 B (some ⟨g, off, none⟩) L v7 (plL (L.take (k + 1))) from by rw [HPL.out]; exact (HI1.out #[.int .i64 pi, .int .i64 0, .string ps, .string ⟨#[]⟩]).app hn7)
            clear hn7
            go_wp2_with fail
            go_roundw
            case rel => exact ⟨k + 1, by omega, by go_num, HX⟩
            case measure => simp [intOf]; omega
          · subst h6
            have HPL := Lib.hid hpl
            have q0 := HCE.out #[.int .i64 pi, .int .i64 0, .string ⟨#[]⟩, .string ⟨#[]⟩] _ _ c0
            have q1 := HCE.out #[.int .i64 pi, .int .i64 0, .string ⟨#[]⟩, .string ⟨#[]⟩] _ _ c1
            have q2 := HCE.out #[.int .i64 pi, .int .i64 0, .string ⟨#[]⟩, .string ⟨#[]⟩] _ _ c2
            have q3 := HCE.out #[.int .i64 pi, .int .i64 0, .string ⟨#[]⟩, .string ⟨#[]⟩] _ _ c3
            have r3 := HCE.out #[.int .i64 pi, .int .i64 0, .string ps, .string ⟨#[]⟩] _ _ c3
            have HS1 := Lib.hid (HI1.out #[.int .i64 pi, .int .i64 0, .string ps, .string ⟨#[]⟩]).bel.size
            clear hpl hty hv
            go_wp2_with fail
            refine (HTY.out _).mono ?_
            rintro x w1 ⟨rfl, rfl⟩
            go_wp2_with (at_builtin; go_must (refine append_prop ⟨pi, 0, ps, ⟨#[]⟩⟩ rfl _ _ rfl (HI1.out #[.int .i64 pi, .int .i64 0, .string ps, .string ⟨#[]⟩]).row HS1.out rfl (wr.heap.size + 1) 1 rfl (by simp) HML.out ?_))
            intro v7 w7 hn7
            have HX := Lib.hid (show WoIn w w7 B (some ⟨g, off, none⟩) L v7 (plL (L.take (k + 1))) from by rw [HPL.out]; exact (HI1.out #[.int .i64 pi, .int .i64 0, .string ps, .string ⟨#[]⟩]).app hn7)
            clear hn7
            go_wp2_with fail
            go_roundw
            case rel => exact ⟨k + 1, by omega, by go_num, HX⟩
            case measure => simp [intOf]; omega
        · rw [if_neg h9, if_neg h6] at hpl
          have n9 : ¬ (t : Int) = 9 := by omega
          have n6 : ¬ (t : Int) = 6 := by omega
          have n7 : ¬ (t : Int) = 7 := by omega
          have HPL := Lib.hid hpl
          have q0 := HCE.out #[.int .i64 pi, .int .i64 0, .string ⟨#[]⟩, .string ⟨#[]⟩] _ _ c0
          have q1 := HCE.out #[.int .i64 pi, .int .i64 0, .string ⟨#[]⟩, .string ⟨#[]⟩] _ _ c1
          have q2 := HCE.out #[.int .i64 pi, .int .i64 0, .string ⟨#[]⟩, .string ⟨#[]⟩] _ _ c2
          have q3 := HCE.out #[.int .i64 pi, .int .i64 0, .string ⟨#[]⟩, .string ⟨#[]⟩] _ _ c3
          have HS1 := Lib.hid (HI1.out #[.int .i64 pi, .int .i64 pn, .string ⟨#[]⟩, .string ⟨#[]⟩]).bel.size
          clear hpl hty hv
          go_wp2_with fail
          refine (HTY.out _).mono ?_
          rintro x w1 ⟨rfl, rfl⟩
          go_wp2_with (at_builtin; go_must (refine append_prop ⟨pi, pn, ⟨#[]⟩, ⟨#[]⟩⟩ rfl _ _ rfl (HI1.out #[.int .i64 pi, .int .i64 pn, .string ⟨#[]⟩, .string ⟨#[]⟩]).row HS1.out rfl (wr.heap.size + 1) 1 rfl (by simp) HML.out ?_))
          intro v7 w7 hn7
          have HX := Lib.hid (show WoIn w w7 B (some ⟨g, off, none⟩) L v7 (plL (L.take (k + 1))) from by rw [HPL.out]; exact (HI1.out #[.int .i64 pi, .int .i64 pn, .string ⟨#[]⟩, .string ⟨#[]⟩]).app hn7)
          clear hn7
          go_wp2_with fail
          go_roundw
          case rel => exact ⟨k + 1, by omega, by go_num, HX⟩
          case measure => simp [intOf]; omega
    · have HX := Lib.hid (show WoSays w (plL L) (.returned (.slice av nv cv)) wr from by
        have h1 := HI.out
        rw [List.take_of_length_le (by have := HN.out; omega)] at h1 hnv
        exact ⟨av, nv, cv, rfl, hnv, h1.row, h1.bel⟩)
      clear hnv HI0
      go_wp2_with fail
      go_ret
      exact HX.out
end
end Go.Proofs.YtinhecggmakbnaaGreatDoor
namespace Go.Proofs.YtinhecggmakbnaaGreatDoor
set_option maxRecDepth 100000
open Go.RowKit Go.Extern.Stop Go.Stop Go.Extern
/-- A packet with nothing of what its kind has not. -/
def bareM (p : Pk) : Pk := if p.kind < 14 then pkR p.kind 0 0 [] else pkR p.kind 0 p.reason (plL p.props)
def BrSays (w : World) (q : Pk) (x : Ending) (w' : World) : Prop := ∃ A, x = .returned (q.agg A) ∧ PkIn w' w.heap.size A q ∧ Below w.heap.size w w'
structure BrIn (w : World) (c : Array Value) (W : World) : Prop where
  bel : Below w.heap.size w W
  box : Blk W w.heap.size 29 c
  res : ∃ o, Blk W (w.heap.size + 1) 29 o ∧ o.size = 26
theorem BrIn.below {w W W' : World} {c : Array Value} (h : BrIn w c W) (hb : Below W.heap.size W W') : BrIn w c W' := by
  obtain ⟨o, ho, hs⟩ := h.res
  exact ⟨h.bel.trans (hb.mono h.bel.size), h.box.below hb h.box.lt, o, ho.below hb ho.lt, hs⟩
theorem BrIn.drewN {w W : World} {c : Array Value} (h : BrIn w c W) (d : Nat) : BrIn w c (W.drewN d) := h.below (below_drewN (Below.refl _ _) d)
theorem BrIn.row {w W : World} {c y : Array Value} (h : BrIn w c W) (hy : y.size = 26) : BrIn w c (W.setRow (w.heap.size + 1) y) := by
  obtain ⟨o, ho, hs⟩ := h.res
  exact ⟨below_row h.bel (by omega) y, h.box.fr (setRow_fr W _ y) (fun hm => by rw [List.mem_singleton] at hm; omega), y, setRow_blk ho y, hy⟩
section
variable {w w' : World} {A : PkA} {p : Pk}
set_option maxHeartbeats 8000000 in
theorem bare14 {B : Nat} (h : PkIn w B A p) (hm : p.props.length ≤ 1000) : Calls Tryz.prog 98 #[p.agg A] w (BrSays w (bareM p)) := by
  obtain ⟨q, hq⟩ : ∃ q, q = bareM p := ⟨_, rfl⟩
  rw [← hq]
  unfold bareM at hq
  obtain ⟨z, hz⟩ : ∃ z, z = pk0.cells pa0 := ⟨_, rfl⟩
  have HZ := Lib.hid hz
  have HZS := Lib.hid (show z.size = 26 by rw [hz]; rfl)
  have HZ1 := Lib.hid (show z.all (·.oneCell') = true by rw [hz]; exact pk_one _ _)
  obtain ⟨c, hc⟩ : ∃ c, c = p.cells A := ⟨_, rfl⟩
  rw [show p.agg A = .agg c from by rw [hc]; rfl]
  have hcs : c.size = 26 := by rw [hc]; rfl
  have hc0 : c[0]? = some (.int .i64 p.kind) := by rw [hc]; rfl
  have hc2 : c[2]? = some (.int .i64 p.reason) := by rw [hc]; rfl
  have hc3 : c[3]? = some (.slice A.pa p.props.length A.pc) := by rw [hc]; rfl
  have HCS := Lib.hid hcs
  have a1 : Below w.heap.size w (w.alloc (.cells c 29)) := (Below.refl _ _).alloc (Nat.le_refl _) _
  obtain ⟨W2, hW2⟩ : ∃ W, W = (w.alloc (.cells c 29)).alloc (.cells z 29) := ⟨_, rfl⟩
  have hb2 : Below w.heap.size w W2 := by rw [hW2]; exact a1.trans (((Below.refl (w.alloc (.cells c 29)).heap.size _).alloc (Nat.le_refl _) (.cells z 29)).mono a1.size)
  have r0 : Blk W2 w.heap.size 29 c := by rw [hW2]; exact (Blk.made w 29 c).alloc (.cells z 29)
  have r1 : Blk W2 (w.heap.size + 1) 29 z := by
    have h := Blk.made (w.alloc (.cells c 29)) 29 z
    rw [World.size_alloc] at h
    rw [hW2]; exact h
  have k0 : W2.cell? ⟨w.heap.size, 0, none⟩ = some (.int .i64 p.kind) := (r0.cell 0).trans hc0
  have HI := Lib.hid (show BrIn w c W2 from ⟨hb2, r0, z, r1, HZS.out⟩)
  have HW2 := Lib.hid hW2
  have HB1 := Lib.hid a1
  have R1 := Lib.hid r1
  have HP := Lib.hid h
  have HC2 := Lib.hid hc2
  have HC3 := Lib.hid hc3
  have HC0 := Lib.hid hc0
  clear hz hc hcs hc2 hc3 a1 hb2 r0 r1 hW2 h
  by_cases hk : p.kind < 14
  · rw [if_pos hk] at hq
    have HQ := Lib.hid hq
    obtain ⟨kd, hkd⟩ : ∃ kd, kd = p.kind := ⟨_, rfl⟩
    rw [← hkd] at hk hc0 k0
    have HKD := Lib.hid hkd
    obtain ⟨y, hy⟩ : ∃ y : Array Value, y = #[.int .i64 kd, .int .i64 0, .int .i64 0, .slice none 0 0, .bool false, .int .i64 0, .string ⟨#[]⟩, .bool false, .string ⟨#[]⟩, .string ⟨#[]⟩, .int .i64 0, .bool false, .slice none 0 0, .bool false, .string ⟨#[]⟩, .bool false, .string ⟨#[]⟩, .bool false, .string ⟨#[]⟩, .string ⟨#[]⟩, .int .i64 0, .bool false, .bool false, .slice none 0 0, .slice none 0 0, .slice none 0 0] := ⟨_, rfl⟩
    have HYL := Lib.hid hy
    have HYS := Lib.hid (show y.size = 26 by rw [hy]; rfl)
    have HY1 := Lib.hid (show y.all (·.oneCell') = true by rw [hy]; simp [Value.oneCell'])
    have r3 := setRow_blk R1.out y
    have LD := Lib.hid (And.intro r3 HYS.out)
    have HX := Lib.hid (show BrSays w q (.returned (.agg y)) (W2.setRow (w.heap.size + 1) y) from by
      rw [HQ.out, ← HKD.out]
      exact ⟨paR none 0, by rw [hy]; rfl, PkIn.ofR (PIn.nil _ _ _) (Nat.le_refl _), below_row HI.out.bel (by omega) y⟩)
    have R1X := Lib.hid (show Blk ((w.alloc (.cells c 29)).alloc (.cells z 29)) (w.heap.size + 1) 29 z from by rw [← HW2.out]; exact R1.out)
    rw [HW2.out] at LD HX
    rw [HW2.out] at k0
    clear hkd hq hy r3
    go_enter Tryz.func98, Tryz.ntmps98
    go_wp2_with (first | refine wpk_box HCS.out _ rfl rfl rfl ?_ | refine wpk_alloc HZ.out rfl rfl ?_ | refine wpk_store R1X.out HZS.out HYS.out HY1.out _ _ rfl rfl rfl (by rw [HYL.out]; rfl) ?_)
    exact bodyPost_ret (v := .agg y) (res_pkt1 (i := 2) rfl rfl LD.out.1 LD.out.2) rfl HX.out
  · rw [if_neg hk] at hq
    have HQ := Lib.hid hq
    obtain ⟨kd, hkd⟩ : ∃ kd, kd = p.kind := ⟨_, rfl⟩
    rw [← hkd] at hk hc0 k0
    have HKD := Lib.hid hkd
    clear hq
    go_enter Tryz.func98, Tryz.ntmps98
    go_wp2_with (first | refine wpk_box HCS.out _ rfl rfl rfl ?_ | refine wpk_alloc HZ.out rfl rfl ?_)
    rw [← HW2.out]
    have HK0 := Lib.hid (show c[0]? = some (.int .i64 kd) from by rw [HC0.out, HKD.out])
    refine wp_region_held_drew (S := fun W => BrIn w c W) (by kernel_rfl) ?_ (fun hHeld => ?_)
    · first | exact HI.out | exact HI.out.drewN 1
    refine wpAnyH_take (i := 0) (oi := { dst := some 9, op := Op.fieldAddr 29 (Operand.tmp 1) 0, type := 0, pos := _, after := _, guard := none }) (v := .pointer (some ⟨w.heap.size, 0, none⟩)) rfl (by kernel_rfl) (by kernel_rfl) (by kernel_rfl) (fun _ _ _ h => h) (Or.inl ⟨by rfl, fun w' hs => ?_⟩) (by assumption) ?_
    · go_simp
    simp only [Act.put, List.setIfInBounds_toArray, List.set_cons_zero, List.set_cons_succ]
    refine wpAnyH_take (i := 1) (oi := { dst := some 10, op := Op.load 3 (Operand.tmp 9), type := 3, pos := _, after := _, guard := none }) (v := .int .i64 kd) rfl (by kernel_rfl) (by kernel_rfl) (by kernel_rfl) (fun _ _ _ h => h) (Or.inl ⟨by rfl, fun w' hs => ?_⟩) (by assumption) ?_
    · have hh : w'.cell? ⟨w.heap.size, 0, none⟩ = some (.int .i64 kd) := (hs.box.cell 0).trans HK0.out
      go_simp
    simp only [Act.put, List.setIfInBounds_toArray, List.set_cons_zero, List.set_cons_succ]
    refine wpAnyH_take (i := 2) (oi := { dst := some 11, op := Op.fieldAddr 29 (Operand.tmp 1) 2, type := 0, pos := _, after := _, guard := none }) (v := .pointer (some ⟨w.heap.size, 2, none⟩)) rfl (by kernel_rfl) (by kernel_rfl) (by kernel_rfl) (fun _ _ _ h => h) (Or.inl ⟨by rfl, fun w' hs => ?_⟩) (by assumption) ?_
    · go_simp
    simp only [Act.put, List.setIfInBounds_toArray, List.set_cons_zero, List.set_cons_succ]
    refine wpAnyH_take (i := 3) (oi := { dst := some 12, op := Op.load 3 (Operand.tmp 11), type := 3, pos := _, after := _, guard := none }) (v := .int .i64 p.reason) rfl (by kernel_rfl) (by kernel_rfl) (by kernel_rfl) (fun _ _ _ h => h) (Or.inl ⟨by rfl, fun w' hs => ?_⟩) (by assumption) ?_
    · have hh : w'.cell? ⟨w.heap.size, 2, none⟩ = some (.int .i64 p.reason) := (hs.box.cell 2).trans HC2.out
      go_simp
    simp only [Act.put, List.setIfInBounds_toArray, List.set_cons_zero, List.set_cons_succ]
    refine wpAnyH_take (i := 4) (oi := { dst := some 13, op := Op.fieldAddr 29 (Operand.tmp 1) 3, type := 0, pos := _, after := _, guard := none }) (v := .pointer (some ⟨w.heap.size, 3, none⟩)) rfl (by kernel_rfl) (by kernel_rfl) (by kernel_rfl) (fun _ _ _ h => h) (Or.inl ⟨by rfl, fun w' hs => ?_⟩) (by assumption) ?_
    · go_simp
    simp only [Act.put, List.setIfInBounds_toArray, List.set_cons_zero, List.set_cons_succ]
    refine wpAnyH_take (i := 5) (oi := { dst := some 14, op := Op.load 22 (Operand.tmp 13), type := 22, pos := _, after := _, guard := none }) (v := .slice A.pa p.props.length A.pc) rfl (by kernel_rfl) (by kernel_rfl) (by kernel_rfl) (fun _ _ _ h => h) (Or.inl ⟨by rfl, fun w' hs => ?_⟩) (by assumption) ?_
    · have hh : w'.cell? ⟨w.heap.size, 3, none⟩ = some (.slice A.pa p.props.length A.pc) := (hs.box.cell 3).trans HC3.out
      go_simp
    simp only [Act.put, List.setIfInBounds_toArray, List.set_cons_zero, List.set_cons_succ]
    refine wpAnyH_ready (rs := [6]) (by kernel_rfl) (by simp) ?_
    refine AllReadyH.cons (o := { dst := some 15, op := Op.call { callee := Callee.value (Operand.func 157), args := #[Operand.tmp 14], argTypes := #[22] }, type := 22, pos := _, after := _, guard := none }) rfl (fun K hK => ?_) AllReadyH.nil
    go_simp
    refine (rplain_any p.props.length A.pc rfl (HP.out.pr.below hHeld.bel) hm).mono ?_
    rintro x w5 ⟨a5, n5, c5, rfl, hn5, hr5, hb5⟩
    have hi5 := hHeld.below hb5
    have HI5 := Lib.hid hi5
    have HR5 := Lib.hid hr5
    have HN5 := Lib.hid hn5
    clear hn5 hr5 hb5 hHeld
    go_wp2_with fail
    refine hK.out _ _ ?_ (fun hHeld6 => ?_)
    · exact hi5
    clear hK K
    try simp only [Act.put, List.setIfInBounds_toArray, List.set_cons_zero, List.set_cons_succ]
    refine wpAnyH_take (i := 7) (oi := { dst := some 16, op := Op.build 29 #[(0, Operand.tmp 10), (2, Operand.tmp 12), (3, Operand.tmp 15)], type := 29, pos := _, after := _, guard := none }) (v := .agg #[.int .i64 kd, .int .i64 0, .int .i64 p.reason, .slice a5 n5 c5, .bool false, .int .i64 0, .string ⟨#[]⟩, .bool false, .string ⟨#[]⟩, .string ⟨#[]⟩, .int .i64 0, .bool false, .slice none 0 0, .bool false, .string ⟨#[]⟩, .bool false, .string ⟨#[]⟩, .bool false, .string ⟨#[]⟩, .string ⟨#[]⟩, .int .i64 0, .bool false, .bool false, .slice none 0 0, .slice none 0 0, .slice none 0 0]) rfl (by kernel_rfl) (by kernel_rfl) (by kernel_rfl) (fun _ _ _ h => h) (Or.inl ⟨by rfl, fun w' hs => ?_⟩) (by assumption) ?_
    · go_simp
    simp only [Act.put, List.setIfInBounds_toArray, List.set_cons_zero, List.set_cons_succ]
    refine wpAnyH_ready (rs := [8]) (by kernel_rfl) (by simp) ?_
    refine AllReadyH.cons (o := { dst := none, op := Op.store 29 (Operand.tmp 2) (Operand.tmp 16), type := 0, pos := _, after := _, guard := none }) rfl (fun K hK => ?_) AllReadyH.nil
    obtain ⟨o, ho, hos⟩ := hHeld6.res
    rw [if_pos (by kernel_rfl)]
    obtain ⟨y, hy⟩ : ∃ y, y = (pkR kd 0 p.reason (plL p.props)).cells (paR a5 c5) := ⟨_, rfl⟩
    have hys : y.size = 26 := by rw [hy]; rfl
    refine wp_store_row 29 (Operand.tmp 2) (Operand.tmp 16) rfl (w.heap.size + 1) y rfl (by rw [hy, HN5.out]; rfl) 29 o ho (by rw [hys]; exact ip_pkt) (by rw [hos, hys]) (by rw [hy]; exact pk_one _ _) ?_
    refine hK _ _ ?_ (fun hHeld8 => ?_)
    · exact hHeld6.row hys
    have r3 := setRow_blk ho y
    have hbf := below_row hHeld6.bel (k := w.heap.size + 1) (by omega) y
    have hpi := (HR5.out.pin (B' := w.heap.size)).row ho (by omega) y
    have hlen : (plL p.props).length ≤ c5 := by
      obtain ⟨a', n', c', e', hn', hc'⟩ := HR5.out.some_form
      injection e' with e1 e2 e3
      omega
    have LD := Lib.hid (And.intro r3 hys)
    have HX := Lib.hid (show BrSays w q (.returned (.agg y)) _ from ⟨paR a5 c5, by rw [HQ.out, ← HKD.out, hy]; rfl, by rw [HQ.out]; exact PkIn.ofR hpi hlen, hbf⟩)
    clear hK K r3 hbf hpi hlen hHeld6 hHeld8 ho hos hi5
    refine wpAnyH_done (by kernel_rfl) ?_ _
    go_wp2_with fail
    trace_state
    exact bodyPost_ret (v := .agg y) (res_pkt1 (i := 2) rfl rfl LD.out.1 LD.out.2) rfl HX.out
end
end Go.Proofs.YtinhecggmakbnaaGreatDoor
namespace Go.Proofs.YtinhecggmakbnaaGreatDoor
set_option maxRecDepth 100000
open Go.RowKit Go.Extern.Stop Go.Stop Go.Extern
/-- What was written and is read without an error had a reason that may be. -/
theorem put_alw {W V : EV} {k reason : Int} {L : PL} {e : Er} (hp : putR W k reason L = (e, V)) (he : e.no = 0) (hV : V.no = 0) (s : ByteArray) (hs : s.data.toList = V.L) (ea : Nat) (h : (tkR k s ⟨W.L.length, 0, ea⟩).e.no = 0) :
    reason ≠ 0 ∨ L ≠ [] → allowedB k reason = true := by
  have hss := slen hs
  have key : ∀ (m : Nat) (post : List UInt8), reason = m → m < 256 ^ 1 → s.data.toList = W.L ++ (be 1 m ++ post) → allowedB k reason = true := by
    intro m post hr hm hsl
    by_cases hh : allowedB k reason = true
    · exact hh
    · exfalso
      have hb : (be 1 m).length = 1 := be_len 1 m
      have hln := slen hsl
      rw [List.length_append, List.length_append, hb] at hln
      have hrn := rNum_ok (s := s) (pre := W.L) (post := post) hm hsl ea
      unfold tkR at h
      rw [if_neg (by show ¬ s.size ≤ W.L.length; omega), hrn] at h
      simp only at h
      rw [← hr, if_pos (by simpa using hh)] at h
      exact absurd (show (2 : Nat) = 0 from h) (by decide)
  unfold putR at hp
  intro hor
  by_cases h0 : L = []
  · subst h0
    rw [if_pos rfl] at hp
    obtain ⟨rfl, rfl⟩ := Prod.mk.inj hp
    have hr : reason ≠ 0 := by
      rcases hor with hr | hr
      · exact hr
      · exact absurd rfl hr
    rw [if_neg hr] at hV hs
    obtain ⟨_, hn, hst⟩ := stepW_no hV
    obtain ⟨m, rfl, hm, hmL⟩ := numE_ok hn
    rw [hst, hmL] at hs
    exact key m [] rfl hm (by rw [hs, List.append_nil])
  · rw [if_neg h0] at hp
    by_cases hen : (encR k L).no = 0
    · rw [if_pos hen] at hp
      obtain ⟨rfl, rfl⟩ := Prod.mk.inj hp
      obtain ⟨h1, _, hst⟩ := stepW_no hV
      obtain ⟨_, hn, hst2⟩ := stepW_no h1
      obtain ⟨m, rfl, hm, hmL⟩ := numE_ok hn
      rw [hst, hst2, hmL] at hs
      exact key m _ rfl hm (by rw [hs, List.append_assoc])
    · rw [if_neg hen] at hp
      obtain ⟨rfl, rfl⟩ := Prod.mk.inj hp
      exact absurd he hen
theorem frR_ok {W : EV} {first : Int} {q : Er} (h : (frR W first q).e.no = 0) : W.no = 0 ∧ q.no = 0 ∧ frR W first q = ⟨e00, first, ⟨W.L.toArray⟩⟩ := by
  unfold frR at h ⊢
  split at h
  · rename_i h1
    rw [if_pos h1]
    split at h
    · rename_i h2
      rw [if_pos h2]
      exact ⟨h1, h2, rfl⟩
    · rename_i h2; exact absurd h h2
  · rename_i h1; exact absurd h h1
theorem frR_bad {W : EV} {first : Int} {q : Er} (h : (frR W first q).e.no ≠ 0) : (frR W first q).first = 0 ∧ (frR W first q).s = ⟨#[]⟩ := by
  unfold frR at h ⊢
  split
  · rename_i h1
    rw [if_pos h1] at h
    split
    · rename_i h2
      rw [if_pos h2] at h
      exact absurd rfl h
    · exact ⟨rfl, rfl⟩
  · exact ⟨rfl, rfl⟩
theorem frR_of {W : EV} {first : Int} {q : Er} (h1 : W.no = 0) (h2 : q.no = 0) : frR W first q = ⟨e00, first, ⟨W.L.toArray⟩⟩ := by
  unfold frR
  rw [if_pos h1, if_pos h2]
theorem enM_bad {p : Pk} (h : (enM p).e.no ≠ 0) : (enM p).first = 0 ∧ (enM p).s = ⟨#[]⟩ := by
  unfold enM at h ⊢
  (repeat' split) <;> first | exact ⟨rfl, rfl⟩ | (rename_i h1 h2; exact frR_bad (by simpa [h1, h2] using h)) | (rename_i h1 h2 h3; exact frR_bad (by simpa [h1, h2, h3] using h))
theorem dcM_bad {first : Int} {s : ByteArray} (h : (dcM first s).1.no ≠ 0) : (dcM first s).2 = pk0 := by
  unfold dcM at h ⊢
  by_cases c0 : kM first = 0
  · rw [if_pos c0]
  · rw [if_neg c0] at h ⊢
    by_cases c1 : kM first < 14
    · rw [if_pos c1] at h ⊢
      by_cases c2 : s.size = 0
      · rw [if_pos c2] at h
        exact absurd rfl h
      · rw [if_neg c2]
    · rw [if_neg c1] at h ⊢
      by_cases c2 : (tkR (kM first) s ⟨0, 0, 0⟩).e.no = 0
      · rw [if_pos c2] at h
        exact absurd rfl h
      · rw [if_neg c2]
theorem arr_list (l : List UInt8) : (⟨l.toArray⟩ : ByteArray).data.toList = l := by simp
theorem dc12 : dcM 192 ⟨w0.L.toArray⟩ = (e00, pkR 12 0 0 []) := rfl
theorem dc13 : dcM 208 ⟨w0.L.toArray⟩ = (e00, pkR 13 0 0 []) := rfl
theorem dcM_tk {first k : Int} (hk : kM first = k) (h0 : ¬ k = 0) (h1 : ¬ k < 14) {s : ByteArray} (h : (tkR k s ⟨0, 0, 0⟩).e.no = 0) : dcM first s = (e00, pkR k 0 (tkR k s ⟨0, 0, 0⟩).code (tkR k s ⟨0, 0, 0⟩).L) := by
  unfold dcM
  rw [hk, if_neg h0, if_neg h1, if_pos h]
theorem dcM_tk_no {first k : Int} (hk : kM first = k) (h0 : ¬ k = 0) (h1 : ¬ k < 14) {s : ByteArray} (h : (dcM first s).1.no = 0) : (tkR k s ⟨0, 0, 0⟩).e.no = 0 := by
  unfold dcM at h
  rw [hk, if_neg h0, if_neg h1] at h
  by_cases h2 : (tkR k s ⟨0, 0, 0⟩).e.no = 0
  · exact h2
  · rw [if_neg h2] at h
    exact absurd h h2
/-- With a reason: what is encoded is decoded as it was. -/
theorem en_back2 {p : Pk} {k first : Int} (hk : p.kind = k) (hf : fM k = first) (hkf : kM first = k) (h0 : ¬ first = 0) (h1 : ¬ k = 0) (h2 : ¬ k < 14) (hsz : ∀ q ∈ p.props, q.s.size < 65536 ∧ q.v.size < 65536) (hl : (wrAll (actsL6 p.props)).L.length ≤ 268435455) (h : (enM p).e.no = 0) :
    dcM (enM p).first (enM p).s = (e00, pkR k 0 p.reason (plL p.props)) := by
  unfold enM at h ⊢
  rw [hk, hf, if_neg h0, if_neg h2] at h ⊢
  obtain ⟨⟨pe, V⟩, hp⟩ : ∃ r, r = putR w0 k p.reason p.props := ⟨_, rfl⟩
  rw [← hp] at h ⊢
  simp only at h ⊢
  by_cases hpe : pe.no = 0
  · rw [if_pos hpe] at h ⊢
    obtain ⟨hV, hd, he⟩ := frR_ok h
    rw [he]
    simp only
    have htk := dcM_tk_no hkf h1 h2 hd
    have ha := put_alw hp.symm hpe hV ⟨V.L.toArray⟩ (arr_list _) 0 htk
    obtain ⟨m, hm, ht⟩ := put_take hp.symm hpe hV rfl hsz hl ha ⟨V.L.toArray⟩ (arr_list _) 0
    have ht' : tkR k ⟨V.L.toArray⟩ ⟨0, 0, 0⟩ = ⟨e00, m, plL p.props⟩ := ht
    rw [dcM_tk hkf h1 h2 htk, ht', hm]
  · rw [if_neg hpe] at h
    exact absurd h hpe
/-- What is encoded is decoded as it was. -/
theorem en_back {p : Pk} (hsz : ∀ q ∈ p.props, q.s.size < 65536 ∧ q.v.size < 65536) (hl : (wrAll (actsL6 p.props)).L.length ≤ 268435455) (h : (enM p).e.no = 0) : dcM (enM p).first (enM p).s = (e00, bareM p) := by
  by_cases h12 : p.kind = 12
  · have he : enM p = ⟨e00, 192, ⟨w0.L.toArray⟩⟩ := by
      unfold enM
      rw [h12]
      rfl
    have hb : bareM p = pkR 12 0 0 [] := by unfold bareM; rw [h12]; rfl
    rw [he, hb]
    exact dc12
  · by_cases h13 : p.kind = 13
    · have he : enM p = ⟨e00, 208, ⟨w0.L.toArray⟩⟩ := by
        unfold enM
        rw [h13]
        rfl
      have hb : bareM p = pkR 13 0 0 [] := by unfold bareM; rw [h13]; rfl
      rw [he, hb]
      exact dc13
    · by_cases h14 : p.kind = 14
      · have hb : bareM p = pkR 14 0 p.reason (plL p.props) := by unfold bareM; rw [h14]; rfl
        rw [hb]
        exact en_back2 (first := 224) h14 rfl rfl (by decide) (by decide) (by decide) hsz hl h
      · by_cases h15 : p.kind = 15
        · have hb : bareM p = pkR 15 0 p.reason (plL p.props) := by unfold bareM; rw [h15]; rfl
          rw [hb]
          exact en_back2 (first := 240) h15 rfl rfl (by decide) (by decide) (by decide) hsz hl h
        · exfalso
          unfold enM at h
          rw [if_pos (by unfold fM; rw [if_neg h12, if_neg h13, if_neg h14, if_neg h15])] at h
          exact absurd (show (7 : Nat) = 0 from h) (by decide)
theorem small_of {L : PL} (h : ∀ p ∈ L, EncP p) (hl : L.length ≤ 64) (hc : (catE (actsL6 L)).length ≤ 60000) : SmallP L := by
  refine ⟨by omega, fun p hp => ⟨by have := (h p hp).2.2.1; omega, by have := (h p hp).2.2.2; omega⟩, fun k => ?_⟩
  have h1 := (enc_all (L := L.take k) fun p hp => h p (List.mem_of_mem_take hp)).2
  have h2 : catE (actsL6 L) = catE (actsL6 (L.take k)) ++ catE (actsL6 (L.drop k)) := by
    rw [← catE_app]
    unfold actsL6
    rw [← List.flatMap_append, List.take_append_drop]
  have h3 := congrArg List.length h2
  rw [List.length_append] at h3
  rw [h1]
  omega
/-- What is decoded, of a kind with a reason, is encoded. -/
theorem de_enc {k first : Int} (hf : fM k = first) (hkf : kM first = k) (h0 : ¬ first = 0) (h1 : ¬ k = 0) (h2 : ¬ k < 14) {s : ByteArray} (h : (tkR k s ⟨0, 0, 0⟩).e.no = 0) (hss : s.size ≤ 60000) :
    (enM (pkR k 0 (tkR k s ⟨0, 0, 0⟩).code (tkR k s ⟨0, 0, 0⟩).L)).e.no = 0 := by
  obtain ⟨t1, t2, t3, t4, t5, t6⟩ := take_put (k := k) (s := s) (R := ⟨0, 0, 0⟩) rfl (Nat.zero_le _) h
  generalize (tkR k s ⟨0, 0, 0⟩).code = m at *
  generalize (tkR k s ⟨0, 0, 0⟩).L = L at *
  clear h
  obtain ⟨e1, e2⟩ := enc_all t3
  have hnum : (numE 1 (m : Int)).no = 0 := by
    unfold numE
    rw [if_neg (by omega)]
  have hw0 : w0.no = 0 := rfl
  unfold enM
  rw [show (pkR k 0 m L).kind = k from rfl, show (pkR k 0 m L).reason = m from rfl, show (pkR k 0 m L).props = L from rfl, hf, if_neg h0, if_neg h2]
  obtain ⟨⟨pe, V⟩, hp⟩ : ∃ r, r = putR w0 k m L := ⟨_, rfl⟩
  rw [← hp]
  simp only
  have hpv : pe.no = 0 ∧ V.no = 0 := by
    unfold putR at hp
    by_cases hL : L = []
    · rw [if_pos hL] at hp
      obtain ⟨rfl, rfl⟩ := Prod.mk.inj hp
      refine ⟨rfl, ?_⟩
      split
      · rfl
      · rw [stepW_ok hw0 hnum]
    · rw [if_neg hL, if_pos (encR_of t5 e1)] at hp
      obtain ⟨rfl, rfl⟩ := Prod.mk.inj hp
      refine ⟨rfl, ?_⟩
      rw [stepW_ok (by rw [stepW_ok hw0 hnum]) rfl]
  rw [if_pos hpv.1]
  have hsz : ∀ q ∈ L, q.s.size < 65536 ∧ q.v.size < 65536 := fun q hq => (t3 q hq).2.2
  obtain ⟨m', hm', ht⟩ := put_take hp.symm hpv.1 hpv.2 rfl hsz (by rw [e2]; omega) (fun hor => t2 (by
    rcases hor with hr | hr
    · exact .inl (by omega)
    · exact .inr hr)) ⟨V.L.toArray⟩ (arr_list _) 0
  have ht' : tkR k ⟨V.L.toArray⟩ ⟨0, 0, 0⟩ = ⟨e00, m', plL L⟩ := ht
  rw [frR_of hpv.2 (by rw [dcM_tk hkf h1 h2 (by rw [ht']; rfl)]; rfl)]
  rfl
/-- What is decoded has few parts, is encoded, and is decoded as it was. -/
theorem de_back {first : Int} {s : ByteArray} (hss : s.size ≤ 2048) (h : (dcM first s).1.no = 0) :
    SmallP (dcM first s).2.props ∧ (enM (dcM first s).2).e.no = 0 ∧ dcM (enM (dcM first s).2).first (enM (dcM first s).2).s = (e00, (dcM first s).2) := by
  have hnil : SmallP [] := small_of (fun p hp => by cases hp) (by decide) (by decide)
  have key : ∀ k : Int, fM k = first → kM first = k → ¬ first = 0 → ¬ k = 0 → ¬ k < 14 → SmallP (dcM first s).2.props ∧ (enM (dcM first s).2).e.no = 0 ∧ dcM (enM (dcM first s).2).first (enM (dcM first s).2).s = (e00, (dcM first s).2) := by
    intro k hf hkf h0 h1 h2
    have htk := dcM_tk_no hkf h1 h2 h
    rw [dcM_tk hkf h1 h2 htk]
    obtain ⟨t1, t2, t3, t4, t5, t6⟩ := take_put (k := k) (s := s) (R := ⟨0, 0, 0⟩) rfl (Nat.zero_le _) htk
    have hen := de_enc hf hkf h0 h1 h2 htk (by omega)
    have hsz : ∀ q ∈ (tkR k s ⟨0, 0, 0⟩).L, q.s.size < 65536 ∧ q.v.size < 65536 := fun q hq => (t3 q hq).2.2
    have hbk := en_back2 (p := pkR k 0 (tkR k s ⟨0, 0, 0⟩).code (tkR k s ⟨0, 0, 0⟩).L) rfl hf hkf h0 h1 h2 hsz (by
      show (wrAll (actsL6 (tkR k s ⟨0, 0, 0⟩).L)).L.length ≤ _
      rw [(enc_all t3).2]
      omega) hen
    refine ⟨small_of t3 t6 (Nat.le_trans t4 (by omega)), hen, hbk.trans ?_⟩
    show (e00, pkR k 0 _ (plL (tkR k s ⟨0, 0, 0⟩).L)) = _
    rw [plL_same fun p hp => (t3 p hp).1]
    rfl
  by_cases h1 : first = 192
  · subst h1
    have hd : dcM 192 s = (e00, pkR 12 0 0 []) := by
      unfold dcM at h ⊢
      rw [show kM 192 = 12 from rfl, if_neg (by decide), if_pos (by decide)] at h ⊢
      split
      · rfl
      · rename_i hn
        rw [if_neg hn] at h
        exact absurd (show (2 : Nat) = 0 from h) (by decide)
    rw [hd]
    exact ⟨hnil, rfl, rfl⟩
  · by_cases h2 : first = 208
    · subst h2
      have hd : dcM 208 s = (e00, pkR 13 0 0 []) := by
        unfold dcM at h ⊢
        rw [show kM 208 = 13 from rfl, if_neg (by decide), if_pos (by decide)] at h ⊢
        split
        · rfl
        · rename_i hn
          rw [if_neg hn] at h
          exact absurd (show (2 : Nat) = 0 from h) (by decide)
      rw [hd]
      exact ⟨hnil, rfl, rfl⟩
    · by_cases h3 : first = 224
      · subst h3; exact key 14 rfl rfl (by decide) (by decide) (by decide)
      · by_cases h4 : first = 240
        · subst h4; exact key 15 rfl rfl (by decide) (by decide) (by decide)
        · exfalso
          unfold dcM at h
          rw [if_pos (by unfold kM; rw [if_neg h1, if_neg h2, if_neg h3, if_neg h4])] at h
          exact absurd (show (2 : Nat) = 0 from h) (by decide)
end Go.Proofs.YtinhecggmakbnaaGreatDoor
