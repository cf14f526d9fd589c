/- What is proved here: the document's Plain: properties with nothing but what their types have. Conditions: they stand where the slice says, few of them. -/
import Derived.Test.YtinhecggmakbnaaGreatDoorPut08
import Derived.Test.YtinhecggmakbnaaGreatDoorPkx08
namespace Go.Proofs.YtinhecggmakbnaaGreatDoor
set_option maxRecDepth 100000
open Go.RowKit Go.Extern.Stop Go.Stop Go.Extern
theorem plL_take (L : PL) (k : Nat) (hk : k < L.length) : plL (L.take (k + 1)) = plL (L.take k) ++ [plV (L.getD k p0)] := by
  unfold plL
  rw [List.take_succ_eq_append_getElem hk, List.map_append, List.getD_eq_getElem?_getD, List.getElem?_eq_getElem hk]
  rfl
section
variable {w w' : World} {B : Nat} {A : Option Addr} {L : PL}
set_option maxHeartbeats 8000000 in
theorem rplain_any (n c : Nat) (hn : n = L.length) (h : PIn w B A L) (hm : n ≤ 1000) : Calls Tryz.prog 157 #[.slice A n c] w (WoSays w (plL L)) := by
  have HN := Lib.hid hn
  have HA := Lib.hid h
  have HI0 : Hid (WoIn w w B A L (.slice none 0 0) (plL (L.take 0))) := Lib.hid ⟨PRow.nil _ _, Below.refl _ _⟩
  clear hn h
  go_enter Tryz.func157, Tryz.ntmps157
  go_wp2_with fail
  go_loopw [3, 4] (fun u j wr => ∃ k : Nat, k ≤ n ∧ j = .int .i64 k ∧ Hid (WoIn w wr B A L u (plL (L.take k)))) (fun _ j _ => n - (intOf j).toNat)
  case atStart => exact ⟨0, by omega, rfl, HI0⟩
  case round =>
    obtain ⟨k, hk, rfl, HI⟩ := hrel
    obtain ⟨av, nv, cv, rfl, hnv, _⟩ := HI.out.row.some_form
    by_cases hlt : k < n
    · have hkL : k < L.length := by have := HN.out; omega
      obtain ⟨g, off, rfl, hc, _⟩ := HA.out (by omega)
      have hcc := hc k hkL
      have hcw := hcc.at (w' := wr) (HI.out.bel.block g (lt_of_cell hcc.c0))
      have hpl := plL_take L k hkL
      have hml : (plL (L.take k)).length ≤ 1000 := by
        rw [plL_len, List.length_take]
        omega
      have hglt := lt_of_cell hcw.c0
      generalize L.getD k p0 = p at *
      obtain ⟨pi, pn, ps, pv⟩ := p
      obtain ⟨c0, c1, c2, c3⟩ := hcw
      have hb1 : ∀ cs, Below wr.heap.size wr (wr.alloc (.cells cs 102)) := fun cs => (Below.refl _ _).alloc (Nat.le_refl _) _
      have hcell : ∀ (cs : Array Value) (o : Nat) (u : Value), wr.cell? ⟨g, o, none⟩ = some u → (wr.alloc (.cells cs 102)).cell? ⟨g, o, none⟩ = some u := fun cs o u hu => ((hb1 cs).cell (p := ⟨g, o, none⟩) hglt).trans hu
      have HI1 := Lib.hid (fun cs => HI.out.below (hb1 cs))
      have HTY := Lib.hid (fun W : World => rtype06_any pi W)
      have HCE := Lib.hid hcell
      have hty := plain_cases pi
      have hpv : plV ⟨pi, pn, ps, pv⟩ = if typeI pi = 9 then ⟨pi, 0, ps, pv⟩ else if typeI pi = 6 ∨ typeI pi = 7 then ⟨pi, 0, ps, ⟨#[]⟩⟩ else ⟨pi, pn, ⟨#[]⟩, ⟨#[]⟩⟩ := rfl
      rw [hpv] at hpl
      have hv := typeI_vals pi
      obtain ⟨t, ht⟩ : ∃ t, t = typeI pi := ⟨_, rfl⟩
      rw [← ht] at HTY hty hpl hv
      have HML := Lib.hid (show (plL (L.take k)).length ≤ 100000 from by omega)
      clear ht hpv hml hc hcc hcell hb1 HI0 hnv
      by_cases h9 : t = 9
      · rw [if_pos h9] at hpl
        subst h9
        have HPL := Lib.hid hpl
        have q0 := HCE.out #[.int .i64 pi, .int .i64 0, .string ⟨#[]⟩, .string ⟨#[]⟩] _ _ c0
        have q1 := HCE.out #[.int .i64 pi, .int .i64 0, .string ⟨#[]⟩, .string ⟨#[]⟩] _ _ c1
        have q2 := HCE.out #[.int .i64 pi, .int .i64 0, .string ⟨#[]⟩, .string ⟨#[]⟩] _ _ c2
        have q3 := HCE.out #[.int .i64 pi, .int .i64 0, .string ⟨#[]⟩, .string ⟨#[]⟩] _ _ c3
        have r3 := HCE.out #[.int .i64 pi, .int .i64 0, .string ps, .string ⟨#[]⟩] _ _ c3
        have HS1 := Lib.hid (HI1.out #[.int .i64 pi, .int .i64 0, .string ps, .string pv]).bel.size
        clear hpl hty hv
        go_wp2_with fail
        refine (HTY.out _).mono ?_
        rintro x w1 ⟨rfl, rfl⟩
        go_wp2_with (at_builtin; go_must (refine append_prop ⟨pi, 0, ps, pv⟩ rfl _ _ rfl (HI1.out #[.int .i64 pi, .int .i64 0, .string ps, .string pv]).row HS1.out rfl (wr.heap.size + 1) 1 rfl (by simp) HML.out ?_))
        intro v7 w7 hn7
        have HX := Lib.hid (show WoIn w w7 B (some ⟨g, off, none⟩) L v7 (plL (L.take (k + 1))) from by rw [HPL.out]; exact (HI1.out #[.int .i64 pi, .int .i64 0, .string ps, .string pv]).app hn7)
        clear hn7
        go_wp2_with fail
        go_roundw
        case rel => exact ⟨k + 1, by omega, by go_num, HX⟩
        case measure => simp [intOf]; omega
      · by_cases h6 : t = 6 ∨ t = 7
        · rw [if_neg h9, if_pos h6] at hpl
          rcases h6 with h6 | h6
          · subst h6
            have HPL := Lib.hid hpl
            have q0 := HCE.out #[.int .i64 pi, .int .i64 0, .string ⟨#[]⟩, .string ⟨#[]⟩] _ _ c0
            have q1 := HCE.out #[.int .i64 pi, .int .i64 0, .string ⟨#[]⟩, .string ⟨#[]⟩] _ _ c1
            have q2 := HCE.out #[.int .i64 pi, .int .i64 0, .string ⟨#[]⟩, .string ⟨#[]⟩] _ _ c2
            have q3 := HCE.out #[.int .i64 pi, .int .i64 0, .string ⟨#[]⟩, .string ⟨#[]⟩] _ _ c3
            have r3 := HCE.out #[.int .i64 pi, .int .i64 0, .string ps, .string ⟨#[]⟩] _ _ c3
            have HS1 := Lib.hid (HI1.out #[.int .i64 pi, .int .i64 0, .string ps, .string ⟨#[]⟩]).bel.size
            clear hpl hty hv
            go_wp2_with fail
            refine (HTY.out _).mono ?_
            rintro x w1 ⟨rfl, rfl⟩
            go_wp2_with (at_builtin; go_must (refine append_prop ⟨pi, 0, ps, ⟨#[]⟩⟩ rfl _ _ rfl (HI1.out #[.int .i64 pi, .int .i64 0, .string ps, .string ⟨#[]⟩]).row HS1.out rfl (wr.heap.size + 1) 1 rfl (by simp) HML.out ?_))
            intro v7 w7 hn7
            have HX := Lib.hid (show WoIn w w7 B (some ⟨g, off, none⟩) L v7 (plL (L.take (k + 1))) from by rw [HPL.out]; exact (HI1.out #[.int .i64 pi, .int .i64 0, .string ps, .string ⟨#[]⟩]).app hn7)
            clear hn7
            go_wp2_with fail
            go_roundw
            case rel => exact ⟨k + 1, by omega, by go_num, HX⟩
            case measure => simp [intOf]; omega
          · subst h6
            have HPL := Lib.hid hpl
            have q0 := HCE.out #[.int .i64 pi, .int .i64 0, .string ⟨#[]⟩, .string ⟨#[]⟩] _ _ c0
            have q1 := HCE.out #[.int .i64 pi, .int .i64 0, .string ⟨#[]⟩, .string ⟨#[]⟩] _ _ c1
            have q2 := HCE.out #[.int .i64 pi, .int .i64 0, .string ⟨#[]⟩, .string ⟨#[]⟩] _ _ c2
            have q3 := HCE.out #[.int .i64 pi, .int .i64 0, .string ⟨#[]⟩, .string ⟨#[]⟩] _ _ c3
            have r3 := HCE.out #[.int .i64 pi, .int .i64 0, .string ps, .string ⟨#[]⟩] _ _ c3
            have HS1 := Lib.hid (HI1.out #[.int .i64 pi, .int .i64 0, .string ps, .string ⟨#[]⟩]).bel.size
            clear hpl hty hv
            go_wp2_with fail
            refine (HTY.out _).mono ?_
            rintro x w1 ⟨rfl, rfl⟩
            go_wp2_with (at_builtin; go_must (refine append_prop ⟨pi, 0, ps, ⟨#[]⟩⟩ rfl _ _ rfl (HI1.out #[.int .i64 pi, .int .i64 0, .string ps, .string ⟨#[]⟩]).row HS1.out rfl (wr.heap.size + 1) 1 rfl (by simp) HML.out ?_))
            intro v7 w7 hn7
            have HX := Lib.hid (show WoIn w w7 B (some ⟨g, off, none⟩) L v7 (plL (L.take (k + 1))) from by rw [HPL.out]; exact (HI1.out #[.int .i64 pi, .int .i64 0, .string ps, .string ⟨#[]⟩]).app hn7)
            clear hn7
            go_wp2_with fail
            go_roundw
            case rel => exact ⟨k + 1, by omega, by go_num, HX⟩
            case measure => simp [intOf]; omega
        · rw [if_neg h9, if_neg h6] at hpl
          have n9 : ¬ (t : Int) = 9 := by omega
          have n6 : ¬ (t : Int) = 6 := by omega
          have n7 : ¬ (t : Int) = 7 := by omega
          have HPL := Lib.hid hpl
          have q0 := HCE.out #[.int .i64 pi, .int .i64 0, .string ⟨#[]⟩, .string ⟨#[]⟩] _ _ c0
          have q1 := HCE.out #[.int .i64 pi, .int .i64 0, .string ⟨#[]⟩, .string ⟨#[]⟩] _ _ c1
          have q2 := HCE.out #[.int .i64 pi, .int .i64 0, .string ⟨#[]⟩, .string ⟨#[]⟩] _ _ c2
          have q3 := HCE.out #[.int .i64 pi, .int .i64 0, .string ⟨#[]⟩, .string ⟨#[]⟩] _ _ c3
          have HS1 := Lib.hid (HI1.out #[.int .i64 pi, .int .i64 pn, .string ⟨#[]⟩, .string ⟨#[]⟩]).bel.size
          clear hpl hty hv
          go_wp2_with fail
          refine (HTY.out _).mono ?_
          rintro x w1 ⟨rfl, rfl⟩
          go_wp2_with (at_builtin; go_must (refine append_prop ⟨pi, pn, ⟨#[]⟩, ⟨#[]⟩⟩ rfl _ _ rfl (HI1.out #[.int .i64 pi, .int .i64 pn, .string ⟨#[]⟩, .string ⟨#[]⟩]).row HS1.out rfl (wr.heap.size + 1) 1 rfl (by simp) HML.out ?_))
          intro v7 w7 hn7
          have HX := Lib.hid (show WoIn w w7 B (some ⟨g, off, none⟩) L v7 (plL (L.take (k + 1))) from by rw [HPL.out]; exact (HI1.out #[.int .i64 pi, .int .i64 pn, .string ⟨#[]⟩, .string ⟨#[]⟩]).app hn7)
          clear hn7
          go_wp2_with fail
          go_roundw
          case rel => exact ⟨k + 1, by omega, by go_num, HX⟩
          case measure => simp [intOf]; omega
    · have HX := Lib.hid (show WoSays w (plL L) (.returned (.slice av nv cv)) wr from by
        have h1 := HI.out
        rw [List.take_of_length_le (by have := HN.out; omega)] at h1 hnv
        exact ⟨av, nv, cv, rfl, hnv, h1.row, h1.bel⟩)
      clear hnv HI0
      go_wp2_with fail
      go_ret
      exact HX.out
end
end Go.Proofs.YtinhecggmakbnaaGreatDoor
