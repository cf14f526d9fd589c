/- What is proved here: whether a text may be a filter, as package topic and as the document has it. Conditions: the two errors that utf.Check names are errors; few bytes. -/
import Derived.Test.YtebaojbagogniaaDoorName16
namespace Go.Proofs.YtebaojbagogniaaDoor
open Go.RowKit Go.Extern.Stop Go.Stop Go.Extern

theorem spl_le {l : BL} : ∀ {x : BL}, x ∈ spl l → x.length ≤ l.length := by
  induction l with
  | nil => intro x hx; simp [spl] at hx; subst hx; simp
  | cons c l ih =>
    intro x hx
    rw [spl] at hx
    by_cases hc : c = 47
    · rw [if_pos hc] at hx
      rcases List.mem_cons.1 hx with rfl | hx
      · simp
      · have := ih hx; simp; omega
    · rw [if_neg hc] at hx
      cases hs : spl l with
      | nil => exact absurd hs (spl_ne l)
      | cons h t =>
        rw [hs] at hx ih
        rcases List.mem_cons.1 hx with rfl | hx
        · have := ih (List.mem_cons_self ..); simpa using this
        · have := ih (List.mem_cons_of_mem _ hx); simp; omega
theorem getD_mem {L : List BL} {k : Nat} (h : k < L.length) : L.getD k [] ∈ L := by
  rw [List.getD_eq_getElem?_getD, List.getElem?_eq_getElem h]
  exact List.getElem_mem h
/-- May it be a filter? -/
def filtB (s : ByteArray) : Bool := topB s && levelsOk (spl (ls s))
section
variable {S : Nat → Addr} {w : World}
theorem bad_sign {x : BL} {b : Bool} (h : signB x = false) : badB x b = false := by unfold badB; rw [h]; rfl
theorem bad_plus {x : BL} {b : Bool} (h : (x == [43]) = true) : badB x b = false := by unfold badB; rw [h]; simp
theorem bad_is {x : BL} {b : Bool} (h0 : signB x = true) (h1 : (x == [43]) = false) (h2 : (x == [35] && b) = false) : badB x b = true := by unfold badB; rw [h0, h1, h2]; rfl
theorem bad_hash {x : BL} {b : Bool} (h2 : (x == [35] && b) = true) : badB x b = false := by unfold badB; rw [h2]; simp
set_option maxHeartbeats 1000000 in
theorem isFilter_any (s : ByteArray) (hm : s.size ≤ 1000000) (he : EnvT w S) : Calls Tryd.prog 31 #[.string s] w fun x w' => x = .returned (.bool (filtB s)) ∧ Below w.heap.size w w' := by
  have HT := Lib.hid (isTopic_any s (by omega) he)
  have HLV := Lib.hid (fun w => levels_any (w := w) s hm)
  have HX := Lib.hid (fun k (hk : k < (spl (ls s)).length) => spl_le (getD_mem hk))
  have hpos : 0 < (spl (ls s)).length := by rw [spl_len]; omega
  have hmax : (spl (ls s)).length ≤ 2000000 := by rw [spl_len]; have := List.count_le_length (a := (47 : UInt8)) (l := ls s); rw [ls_size] at this; omega
  rw [ls_size] at HX
  unfold filtB
  generalize topB s = t at *
  generalize spl (ls s) = L at *
  clear he
  cases t with
  | false =>
    go_enter Tryd.func31, Tryd.ntmps31
    go_wp2_with fail
    refine (HT.out).mono ?_
    rintro x w1 ⟨rfl, hb⟩
    have HB := Lib.hid hb
    clear hb
    go_wp2_with fail
    go_ret
    exact ⟨rfl, HB.out⟩
  | true =>
    unfold LevSays at HLV
    go_enter Tryd.func31, Tryd.ntmps31
    go_wp2_with fail
    refine (HT.out).mono ?_
    rintro x w1 ⟨rfl, hb⟩
    have HB := Lib.hid hb
    clear hb
    go_wp2_with fail
    refine (HLV.out _).mono ?_
    rintro x w2 ⟨v, rfl, ht, hb⟩
    obtain ⟨a, c, rfl⟩ := ht.form
    obtain ⟨g, rfl, _, hgl, hcell⟩ := ht.at_ hpos
    have HB2 := Lib.hid (HB.out.trans (hb.mono HB.out.size))
    have HC := Lib.hid hcell
    clear ht hb hcell
    go_wp2_with fail
    go_loopw [17] (fun kv wr => ∃ k : Nat, k ≤ L.length ∧ kv = .int .i64 k ∧ Below w2.heap.size w2 wr ∧ ∀ j, j < k → badB (L.getD j []) (j + 1 == L.length) = false) (fun kv _ => L.length - (intOf kv).toNat)
    case atStart => exact ⟨0, Nat.zero_le _, rfl, Below.refl _ _, fun j hj => by omega⟩
    case round =>
      obtain ⟨k, hk, rfl, hb, hno⟩ := hrel
      have HN := Lib.hid hno
      have HBr := Lib.hid hb
      by_cases hlt : k < L.length
      · have c0 := (hb.cell (p := ⟨g, k, none⟩) hgl).trans (HC.out k hlt)
        have hxl := HX.out k hlt
        have hnext : badB (L.getD k []) (k + 1 == L.length) = false → ∀ j, j < k + 1 → badB (L.getD j []) (j + 1 == L.length) = false := fun h j hj => by
          rcases (show j < k ∨ j = k by omega) with h' | rfl
          · exact HN.out j h'
          · exact h
        have HNX := Lib.hid hnext
        have HBD := Lib.hid (fun h => levels_bad (L := L) hlt h)
        clear hb hno hnext
        generalize L.getD k [] = x at *
        have HS := Lib.hid (fun w => hasSign_any (w := w) (bs x) (by rw [bs_size]; omega))
        have HP := Lib.hid (fun w => is_plus (w := w) (bs x))
        have HH := Lib.hid (fun w => is_hash (w := w) (bs x))
        rw [ls_bs] at HS HP HH
        generalize bs x = xs at *
        cases hg : signB x with
        | false =>
          rw [hg] at HS
          have HE := Lib.hid (HNX.out (bad_sign hg))
          clear hg
          go_wp2_with fail
          refine (HS.out _).mono ?_
          rintro x w3 ⟨rfl, hb⟩
          have HB3 := Lib.hid (HBr.out.trans (hb.mono HBr.out.size))
          clear hb c0
          go_wp2_with fail
          go_roundw
          case rel => exact ⟨k + 1, by omega, by go_num, HB3.out, HE.out⟩
          case measure => simp [intOf]; omega
        | true =>
          rw [hg] at HS
          cases hp : (x == [43]) with
          | true =>
            rw [hp] at HP
            have HE := Lib.hid (HNX.out (bad_plus hp))
            clear hg hp
            go_wp2_with fail
            refine (HS.out _).mono ?_
            rintro x w3 ⟨rfl, hb⟩
            have HB3 := Lib.hid (HBr.out.trans (hb.mono HBr.out.size))
            clear hb c0
            go_wp2_with fail
            refine (HP.out _).mono ?_
            rintro x w4 ⟨rfl, rfl⟩
            go_wp2_with fail
            go_roundw
            case rel => exact ⟨k + 1, by omega, by go_num, HB3.out, HE.out⟩
            case measure => simp [intOf]; omega
          | false =>
            rw [hp] at HP
            cases hh : (x == [35]) with
            | false =>
              rw [hh] at HH
              have HE := Lib.hid (HBD.out (bad_is hg hp (by rw [hh]; rfl)))
              clear hg hp hh
              go_wp2_with fail
              refine (HS.out _).mono ?_
              rintro x w3 ⟨rfl, hb⟩
              have HB3 := Lib.hid (HBr.out.trans (hb.mono HBr.out.size))
              clear hb c0
              go_wp2_with fail
              refine (HP.out _).mono ?_
              rintro x w4 ⟨rfl, rfl⟩
              go_wp2_with fail
              refine (HH.out _).mono ?_
              rintro x w4 ⟨rfl, rfl⟩
              go_wp2_with fail
              go_ret
              exact ⟨ret_bool (by rw [HE.out]; rfl), HB2.out.trans (HB3.out.mono HB2.out.size)⟩
            | true =>
              rw [hh] at HH
              by_cases hl : k + 1 = L.length
              · have hlast : (((k : Nat) : Int) == (L.length : Int) - 1) = true := beq_iff_eq.2 (by omega)
                have HE := Lib.hid (HNX.out (bad_hash (by rw [hh, show (k + 1 == L.length) = true from beq_iff_eq.2 hl]; rfl)))
                clear hg hp hh hl
                go_wp2_with fail
                refine (HS.out _).mono ?_
                rintro x w3 ⟨rfl, hb⟩
                have HB3 := Lib.hid (HBr.out.trans (hb.mono HBr.out.size))
                clear hb c0
                go_wp2_with fail
                refine (HP.out _).mono ?_
                rintro x w4 ⟨rfl, rfl⟩
                go_wp2_with fail
                refine (HH.out _).mono ?_
                rintro x w4 ⟨rfl, rfl⟩
                go_wp2_with fail
                go_roundw
                case rel => exact ⟨k + 1, by omega, by go_num, HB3.out, HE.out⟩
                case measure => simp [intOf]; omega
              · have hlast : (((k : Nat) : Int) == (L.length : Int) - 1) = false := beq_eq_false_iff_ne.2 (by omega)
                have HE := Lib.hid (HBD.out (bad_is hg hp (by rw [hh, show (k + 1 == L.length) = false from beq_eq_false_iff_ne.2 hl]; rfl)))
                clear hg hp hh hl
                go_wp2_with fail
                refine (HS.out _).mono ?_
                rintro x w3 ⟨rfl, hb⟩
                have HB3 := Lib.hid (HBr.out.trans (hb.mono HBr.out.size))
                clear hb c0
                go_wp2_with fail
                refine (HP.out _).mono ?_
                rintro x w4 ⟨rfl, rfl⟩
                go_wp2_with fail
                refine (HH.out _).mono ?_
                rintro x w4 ⟨rfl, rfl⟩
                go_wp2_with fail
                go_ret
                exact ⟨ret_bool (by rw [HE.out]; rfl), HB2.out.trans (HB3.out.mono HB2.out.size)⟩
      · obtain rfl : k = L.length := by omega
        have HE := Lib.hid (levels_good (L := L) HN.out)
        clear hb hno
        go_wp2_with fail
        go_ret
        exact ⟨ret_bool (by rw [HE.out]; rfl), HB2.out.trans (HBr.out.mono HB2.out.size)⟩
end
end Go.Proofs.YtebaojbagogniaaDoor
